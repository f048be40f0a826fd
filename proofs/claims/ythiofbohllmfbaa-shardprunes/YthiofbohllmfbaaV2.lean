/- What versions tell at a stamp; some more put behind; pruned: walks of the document's. -/
import Derived.Test.YthiofbohllmfbaaV1
import Derived.Test.YthiofbohllmfbaaC6
import Derived.Deep.RegionLaw
namespace Go.Proofs.Ythiofbohllmfbaa.Ch
open Go Go.RowKit Go.Sort Go.Lib Cl Ce

set_option maxRecDepth 100000 in
set_option maxHeartbeats 1000000 in
theorem refAt_any (v : Value) (l : List Ver) (s : Int) (w : World) (h : VRow w v l) (hn : l.length ≤ 1000000) :
    Calls Try.prog 38 #[v, .int .i64 s] w fun e w' => e = .returned (celV (atS l s)) ∧ Below w.heap.size w w' := by
  unfold celV
  obtain ⟨a, c, rfl, hc, hl⟩ := h
  have HA := Lib.hid hl
  clear hl
  go_enter Try.func38, Try.ntmps38
  go_wp2_with fail
  go_loopw [6] (fun i wr => ∃ k : Nat, k ≤ l.length ∧ i = .int .i64 k ∧ Hid (Ce.Loop w wr (atS (l.take k) s))) (fun i _ => l.length - (intOf i).toNat)
  case atStart => exact ⟨0, Nat.zero_le _, rfl, Lib.hid (Ce.Loop.start w)⟩
  case round =>
    obtain ⟨k, hk, rfl, HR⟩ := hrel
    by_cases hlt : k < l.length
    · obtain ⟨b, o, rfl, hb, hL⟩ := HA.out (Go.Proofs.Ythiofbohllmfbaa.ne_of_lt hlt)
      have L := HR.out
      obtain ⟨e1, e2, e3, e4, e5, e6⟩ := v_at (hL.on hb L.2.2.2.2) k hlt
      have HD := Lib.hid (atS_next hlt s)
      have i1 : (k : Int) < (l.length : Int) := by omega
      have i2 : (0 : Int) ≤ (k : Int) := by omega
      generalize atS (l.take k) s = C at *
      generalize l[k] = x at *
      obtain ⟨x1, x2⟩ := x
      obtain ⟨y1, y2, y3, y4, y5⟩ := x2
      simp only at e1 e2 e3 e4 e5 e6 HD
      clear hL
      obtain ⟨a0, a1, a2, a3, a4⟩ := L.1
      obtain ⟨f0, f1, f2, f3, f4⟩ := L.2.1
      have HL := Lib.hid L
      clear L HR
      by_cases hs : x1 ≤ s
      · have q1 : decide (x1 ≤ s) = true := decide_eq_true hs
        rw [if_pos hs] at HD
        have HP := Lib.hid (HL.out.put ⟨y1, y2, y3, y4, y5⟩)
        clear hs HL
        go_wp2_with fail
        exact ⟨⟨k + 1, by omega, by go_num, Lib.hid (by rw [HD.out]; exact HP.out)⟩, by simp [intOf]; omega⟩
      · have q1 : decide (x1 ≤ s) = false := decide_eq_false hs
        rw [if_neg hs] at HD
        clear hs
        go_wp2_with fail
        exact ⟨⟨k + 1, by omega, by go_num, Lib.hid (by rw [HD.out]; exact HL.out)⟩, by simp [intOf]; omega⟩
    · have L := HR.out
      rw [List.take_of_length_le (by omega)] at L
      have i1 : ¬ (k : Int) < (l.length : Int) := by omega
      obtain ⟨a0, a1, a2, a3, a4⟩ := L.1
      obtain ⟨r0, r1, r2, r3, r4⟩ := L.2.2.1
      obtain ⟨f0, f1, f2, f3, f4⟩ := L.2.2.2.1
      have hp := Lib.hid (L.2.2.1.set (atS l s) L.2.2.2.1)
      have hd := Lib.hid (put_below (atS l s) L.2.2.2.2 (Nat.le_refl _))
      clear L HR
      simp only [zero] at *
      go_wp2_with fail
      obtain ⟨x0, x1, x2, x3, x4⟩ := hp.out.1
      simp only [put] at x0 x1 x2 x3 x4
      exact bodyPost_ret (v := .agg #[.int .i64 (atS l s).cnt, .int .i64 (atS l s).sn, .bool (atS l s).so, .int .i64 (atS l s).mn, .int .i64 (atS l s).mx]) (by simp [results, Try.results38, go_sem, x0, x1, x2, x3, x4]) rfl ⟨rfl, hd.out⟩

end Go.Proofs.Ythiofbohllmfbaa.Ch
