/- Carried over from earlier layers: walks and lemmas. -/
import Derived.Test.YtecfjifipbabiaaC4
import Derived.Deep.RegionWith
namespace Go.Proofs.Ytecfjifipbabiaa.Ce
open Go Go.RowKit Cl
open St Sat
theorem ne_of_lt {α : Type} {l : List α} {k : Nat} (h : k < l.length) : l ≠ [] := fun e => by subst e; simp at h
/-- The samples l lie in block b from offset o on. -/
def ILies (w : World) (b o : Nat) (l : List Int) : Prop := ∀ i (h : i < l.length), w.cell? ⟨b, o + i, none⟩ = some (.int .i64 l[i])
theorem ILies.on {w w1 : World} {b o : Nat} {l : List Int} (h : ILies w b o l) (hb : b < w.heap.size) (n : Below w.heap.size w w1) : ILies w1 b o l := by
  intro i hi
  rw [n.cell (p := ⟨b, o + i, none⟩) hb]
  exact h i hi
/-- What stands behind the slice's address a. -/
def IAt (w : World) (a : Option Addr) (l : List Int) : Prop := l ≠ [] → ∃ b o, a = some ⟨b, o, none⟩ ∧ b < w.heap.size ∧ ILies w b o l
theorem IAt.on {w w1 : World} {a : Option Addr} {l : List Int} (h : IAt w a l) (n : Below w.heap.size w w1) : IAt w1 a l := by
  intro hne
  obtain ⟨b, o, ha, hb, hL⟩ := h hne
  exact ⟨b, o, ha, Nat.lt_of_lt_of_le hb n.size, hL.on hb n⟩
theorem take_snoc {α : Type} (l : List α) (k : Nat) (h : k < l.length) : l.take (k + 1) = l.take k ++ [l[k]] := by
  rw [List.take_succ_eq_append_getElem h]
theorem ofL_take (l : List Int) (k : Nat) (h : k < l.length) : ofL (l.take (k + 1)) = fold (ofL (l.take k)) l[k] := by rw [take_snoc l k h, ofL_snoc]
theorem mergeL_take (l : List Cell) (k : Nat) (h : k < l.length) : mergeL (l.take (k + 1)) = two (mergeL (l.take k)) l[k] := by rw [take_snoc l k h, mergeL_snoc]
/-- What a loop keeps: its cell's box, the result's box, and nothing older has turned. -/
def Loop (w wr : World) (c : Cell) : Prop := Box wr (w.heap.size + 1) c ∧ Free wr (w.heap.size + 1) ∧ Box wr w.heap.size zero ∧ Free wr w.heap.size ∧ Below w.heap.size w wr
theorem Loop.on {w wr w2 : World} {c : Cell} (h : Loop w wr c) (n : Below wr.heap.size wr w2) : Loop w w2 c :=
  ⟨h.1.on n, h.2.1.on h.1.lt n, h.2.2.1.on n, h.2.2.2.1.on h.2.2.1.lt n, h.2.2.2.2.trans (n.mono h.2.2.2.2.size)⟩
theorem Loop.start (w : World) : Loop w ((w.alloc (.cells #[.int .i64 zero.cnt, .int .i64 zero.sn, .bool zero.so, .int .i64 zero.mn, .int .i64 zero.mx] 28)).alloc (.cells #[.int .i64 zero.cnt, .int .i64 zero.sn, .bool zero.so, .int .i64 zero.mn, .int .i64 zero.mx] 28)) zero :=
  ⟨Box.new _ _ zero (by simp), Free.new _ _ zero (by simp), (Box.new w w.heap.size zero rfl).on (aBelow _ _), (Free.new w w.heap.size zero rfl).on (by simp) (aBelow _ _), ((Below.refl _ _).alloc (Nat.le_refl _) _).alloc (by simp) _⟩
theorem frozen_put {W : World} {rb b i : Nat} (d : Cell) : (put W rb d).frozen? ⟨b, i, none⟩ = W.frozen? ⟨b, i, none⟩ := by
  unfold put
  simp [go_sem]
theorem Loop.put {w wr : World} {c : Cell} (h : Loop w wr c) (d : Cell) : Loop w (Ce.put wr (w.heap.size + 1) d) d := by
  obtain ⟨h1, h2, ⟨r0, r1, r2, r3, r4⟩, ⟨f0, f1, f2, f3, f4⟩, h5⟩ := h
  have e := h1.set d h2
  have hne : w.heap.size + 1 ≠ w.heap.size := by omega
  refine ⟨e.1, e.2.1, ⟨?_, ?_, ?_, ?_, ?_⟩, ⟨?_, ?_, ?_, ?_, ?_⟩, put_below d h5 (by omega)⟩
  all_goals first | (rw [cell_put d hne]; assumption) | (rw [frozen_put d]; assumption)
set_option maxRecDepth 100000 in
set_option maxHeartbeats 400000 in
theorem refOfs_any (a : Option Addr) (c : Nat) (l : List Int) (w : World) (hA : IAt w a l) (ho : ∀ x ∈ l, ok64 x) (hn : l.length ≤ 1000000) :
    Calls Try.prog 23 #[.slice a l.length c] w fun e w' => e = .returned (.agg #[.int .i64 (ofL l).cnt, .int .i64 (ofL l).sn, .bool (ofL l).so, .int .i64 (ofL l).mn, .int .i64 (ofL l).mx]) ∧ Below w.heap.size w w' := by
  have HA := Lib.hid hA
  have HO := Lib.hid ho
  clear hA ho
  go_enter Try.func23, Try.ntmps23
  go_wp2_with fail
  go_loopw [4] (fun i wr => ∃ k : Nat, k ≤ l.length ∧ i = .int .i64 k ∧ Hid (Loop w wr (ofL (l.take k)))) (fun i _ => l.length - (intOf i).toNat)
  case atStart => exact ⟨0, Nat.zero_le _, rfl, Lib.hid (Loop.start w)⟩
  case round =>
    obtain ⟨k, hk, rfl, HR⟩ := hrel
    by_cases hlt : k < l.length
    · obtain ⟨b, o, rfl, hb, hL⟩ := HA.out (ne_of_lt hlt)
      have L := HR.out
      have cx : wr.cell? ⟨b, o + k, none⟩ = some (.int .i64 l[k]) := by rw [L.2.2.2.2.cell (p := ⟨b, o + k, none⟩) hb]; exact hL k hlt
      have HD := Lib.hid (ofL_take l k hlt)
      have HC := Lib.hid (ok_ofL (l.take k) fun x hx => HO.out x (List.mem_of_mem_take hx))
      have HX := Lib.hid (HO.out _ (List.getElem_mem hlt))
      have i1 : (k : Int) < (l.length : Int) := by omega
      have i2 : (0 : Int) ≤ (k : Int) := by omega
      generalize ofL (l.take k) = C at *
      generalize l[k] = x at *
      clear hL
      obtain ⟨a0, a1, a2, a3, a4⟩ := L.1
      have HL := Lib.hid L
      clear L HR
      go_wp2_with fail
      go_region_with (go_at_call 29; refine (refFold_any C x _ HC.out HX.out).mono ?_; rintro e w2 ⟨rfl, m2⟩; have m3 : Below wr.heap.size wr w2 := ⟨m2.os, m2.tape, m2.output, m2.size, m2.block⟩; have L2 := HL.out.on m3; obtain ⟨g0, g1, g2, g3, g4⟩ := L2.1; obtain ⟨f0, f1, f2, f3, f4⟩ := L2.2.1; have HL2 := Lib.hid L2; clear L2 m2 m3)
      all_goals
        clear a0 a1 a2 a3 a4 cx HL hb
        generalize fold C x = D at *
        go_wp2_with fail
        exact ⟨⟨k + 1, by omega, by go_num, Lib.hid (by rw [HD.out]; exact HL2.out.put D)⟩, by simp [intOf]; omega⟩
    · have L := HR.out
      rw [List.take_of_length_le (by omega)] at L
      obtain ⟨a0, a1, a2, a3, a4⟩ := L.1
      obtain ⟨r0, r1, r2, r3, r4⟩ := L.2.2.1
      obtain ⟨f0, f1, f2, f3, f4⟩ := L.2.2.2.1
      have hp := Lib.hid (L.2.2.1.set (ofL l) L.2.2.2.1)
      have hd := Lib.hid (put_below (ofL l) L.2.2.2.2 (Nat.le_refl _))
      clear L HR
      simp only [zero] at *
      go_wp2_with fail
      obtain ⟨x0, x1, x2, x3, x4⟩ := hp.out.1
      simp only [put] at x0 x1 x2 x3 x4
      exact bodyPost_ret (v := .agg #[.int .i64 (ofL l).cnt, .int .i64 (ofL l).sn, .bool (ofL l).so, .int .i64 (ofL l).mn, .int .i64 (ofL l).mx]) (by simp [results, Try.results23, go_sem, x0, x1, x2, x3, x4]) rfl ⟨rfl, hd.out⟩
end Go.Proofs.Ytecfjifipbabiaa.Ce
namespace Go.Proofs.Ytecfjifipbabiaa.Ce
open Go Go.RowKit Cl
open St Sat
/-- The cells l lie in block b from offset o on. -/
def CLies (w : World) (b o : Nat) (l : List Cell) : Prop := ∀ i (h : i < l.length), w.cell? ⟨b, o + i * 5, none⟩ = some (.int .i64 (l[i]).cnt) ∧ w.cell? ⟨b, o + i * 5 + 1, none⟩ = some (.int .i64 (l[i]).sn) ∧ w.cell? ⟨b, o + i * 5 + 2, none⟩ = some (.bool (l[i]).so) ∧ w.cell? ⟨b, o + i * 5 + 3, none⟩ = some (.int .i64 (l[i]).mn) ∧ w.cell? ⟨b, o + i * 5 + 4, none⟩ = some (.int .i64 (l[i]).mx)
theorem CLies.on {w w1 : World} {b o : Nat} {l : List Cell} (h : CLies w b o l) (hb : b < w.heap.size) (n : Below w.heap.size w w1) : CLies w1 b o l := by
  intro i hi
  obtain ⟨h0, h1, h2, h3, h4⟩ := h i hi
  exact ⟨keepC n h0 hb, keepC n h1 hb, keepC n h2 hb, keepC n h3 hb, keepC n h4 hb⟩
/-- What stands behind the slice's address a. -/
def CAt (w : World) (a : Option Addr) (l : List Cell) : Prop := l ≠ [] → ∃ b o, a = some ⟨b, o, none⟩ ∧ b < w.heap.size ∧ CLies w b o l
theorem CAt.on {w w1 : World} {a : Option Addr} {l : List Cell} (h : CAt w a l) (n : Below w.heap.size w w1) : CAt w1 a l := by
  intro hne
  obtain ⟨b, o, ha, hb, hL⟩ := h hne
  exact ⟨b, o, ha, Nat.lt_of_lt_of_le hb n.size, hL.on hb n⟩
end Go.Proofs.Ytecfjifipbabiaa.Ce
