/- The program's own Waits, by closures, and the library's functions that it calls: walks. -/
import Derived.Test.YtmgfgfkkhcibcaaV14
namespace Go.Proofs.Ytmgfgfkkhcibcaa.Se
open Go Go.RowKit

theorem cell_kept1 {w : World} {a : Addr} {u : Value} (h : w.cell? a = some u) (o : Obj) : (w.alloc o).cell? a = some u := by
  have hlt := World.block_lt_of_cell? _ _ h
  rw [(aBelow w o).cell hlt, h]

set_option maxRecDepth 100000 in
set_option maxHeartbeats 2000000 in
theorem isW_any (B0 : Nat) (win : Int) (x0 x1 x3 : Int) (x2 : ByteArray) (w : World) (h0 : w.cell? ⟨B0, 0, none⟩ = some (.int .i64 win)) :
    Calls Try.prog 30 #[.agg #[.int .i64 x0, .int .i64 x1, .string x2, .int .i64 x3], .pointer (some ⟨B0, 0, none⟩)] w fun e w' => e = .returned (.bool (decide (x1 = win))) ∧ Below w.heap.size w w' := by
  have d0 := Lib.hid (aBelow w (.cells #[.int .i64 x0, .int .i64 x1, .string x2, .int .i64 x3] 29))
  have R0 := cell_kept1 h0 (.cells #[.int .i64 x0, .int .i64 x1, .string x2, .int .i64 x3] 29)
  clear h0
  by_cases c1 : x1 = win
  · have q1 : (x1 == win) = true := by simp [c1]
    rw [show decide (x1 = win) = true from decide_eq_true c1]
    subst c1
    go_enter Try.func30, Try.ntmps30
    go_wp2_with fail
    go_ret
    exact ⟨by first | rfl | simp, d0.out⟩
  · have q1 : (x1 == win) = false := by simp [c1]
    rw [show decide (x1 = win) = false from decide_eq_false c1]
    go_enter Try.func30, Try.ntmps30
    go_wp2_with fail
    go_ret
    exact ⟨by first | rfl | simp [q1], d0.out⟩

set_option maxRecDepth 100000 in
set_option maxHeartbeats 2000000 in
theorem indexW_any (v : Value) (l : List Wr) (B0 : Nat) (win : Int) (w : World) (h : WRow w v l) (hn : l.length ≤ 1000000) (h0 : w.cell? ⟨B0, 0, none⟩ = some (.int .i64 win)) :
    Calls Try.prog 33 #[v, .func (.func 30) #[] #[.pointer (some ⟨B0, 0, none⟩)]] w fun e w' => (∃ i : Int, e = .returned (.int .i64 i) ∧ decide (0 ≤ i) = hasW win l) ∧ Below w.heap.size w w' := by
  obtain ⟨a, c, rfl, hc, hl⟩ := h
  have HL := Lib.hid hl
  have H0 := Lib.hid h0
  obtain ⟨F, HF⟩ : ∃ F, Hid (hasW win l = F) := ⟨_, rfl⟩
  rw [HF.out]
  clear hl h0
  go_enter Try.func33, Try.ntmps33
  go_wp2_with fail
  go_loopw [8] (fun i wr => ∃ k : Nat, k ≤ l.length ∧ i = .int .i64 k ∧ Hid (Below w.heap.size w wr) ∧ Hid ((l.take k).any (fun x => decide (x.win = win)) = false)) (fun i _ => l.length - (intOf i).toNat)
  case atStart => exact ⟨0, Nat.zero_le _, rfl, Below.refl _ _, rfl⟩
  case round =>
    obtain ⟨k, hk, rfl, HD, HT⟩ := hrel
    by_cases hlt : k < l.length
    · obtain ⟨b, o, rfl, hb, hL⟩ := HL.out (ne_of_lt hlt)
      obtain ⟨e1, e2, e3, e4⟩ := w_at (hL.on hb HD.out) k hlt
      have i1 : (k : Int) < (l.length : Int) := by omega
      have i2 : (0 : Int) ≤ (k : Int) := by omega
      have HX : Hid (decide ((l[k]).win = win) = true → F = true) := fun h => (HF.out).symm.trans (any_memW (f := fun x => decide (x.win = win)) hlt h)
      have HN : Hid (decide ((l[k]).win = win) = false → (l.take (k + 1)).any (fun x => decide (x.win = win)) = false) := fun h => by
        rw [any_takeW _ _ _ hlt, HT.out, h]; rfl
      generalize l[k] = x at *
      obtain ⟨x0, x1, x2, x3⟩ := x
      simp only at e1 e2 e3 e4 HX HN
      have HC := Lib.hid (isW_any B0 win x0 x1 x3 x2 wr (keepC HD.out H0.out (World.block_lt_of_cell? _ _ H0.out)))
      clear hL HL HT
      cases T : decide (x1 = win)
      · have HM := Lib.hid (HN.out T)
        rw [T] at HC
        clear HX HN
        go_wp2_with (go_at_call 30; refine HC.out.mono ?_; rintro e w1 ⟨rfl, n1⟩)
        exact ⟨⟨k + 1, by omega, by go_num, HD.out.trans (n1.mono HD.out.size), HM⟩, by simp [intOf]; omega⟩
      · have HM := Lib.hid (HX.out T)
        rw [T] at HC
        clear HX HN
        go_wp2_with (go_at_call 30; refine HC.out.mono ?_; rintro e w1 ⟨rfl, n1⟩)
        go_ret
        exact ⟨⟨_, rfl, by rw [HM.out]; exact decide_eq_true i2⟩, HD.out.trans (n1.mono HD.out.size)⟩
    · have HM : Hid (F = false) := Lib.hid ((HF.out).symm.trans ((any_allW hlt).symm.trans HT.out))
      have i1 : ¬ (k : Int) < (l.length : Int) := by omega
      go_wp2_with fail
      go_ret
      exact ⟨⟨_, rfl, by rw [HM.out]; rfl⟩, HD.out⟩

set_option maxRecDepth 100000 in
set_option maxHeartbeats 2000000 in
theorem containsW_any (v : Value) (l : List Wr) (B0 : Nat) (win : Int) (w : World) (h : WRow w v l) (hn : l.length ≤ 1000000) (h0 : w.cell? ⟨B0, 0, none⟩ = some (.int .i64 win)) :
    Calls Try.prog 29 #[v, .func (.func 30) #[] #[.pointer (some ⟨B0, 0, none⟩)]] w fun e w' => e = .returned (.bool (hasW win l)) ∧ Below w.heap.size w w' := by
  have HC := Lib.hid (indexW_any v l B0 win w h hn h0)
  obtain ⟨a, c, rfl, -, -⟩ := h
  clear h0
  go_enter Try.func29, Try.ntmps29
  go_wp2_with (go_at_call 33; refine HC.out.mono ?_; rintro e w1 ⟨⟨i, rfl, hi⟩, n1⟩)
  go_ret
  exact ⟨by simp, n1⟩

set_option maxRecDepth 100000 in
set_option maxHeartbeats 2000000 in
theorem queueW_any (v : Value) (l : List Wr) (B0 : Nat) (win : Int) (w : World) (h : WRow w v l) (hn : l.length ≤ 1000000) (h0 : w.cell? ⟨B0, 0, none⟩ = some (.int .i64 win)) :
    Calls Try.prog 28 #[v, .pointer (some ⟨B0, 0, none⟩)] w fun e w' => e = .returned (.bool (hasW win l)) ∧ Below w.heap.size w w' := by
  have HC := Lib.hid (containsW_any v l B0 win w h hn h0)
  obtain ⟨a, c, rfl, -, -⟩ := h
  clear h0
  go_enter Try.func28, Try.ntmps28
  go_wp2_with (go_at_call 29; refine HC.out.mono ?_; rintro e w1 ⟨rfl, n1⟩)
  go_ret
  exact ⟨rfl, n1⟩

set_option maxRecDepth 100000 in
set_option maxHeartbeats 2000000 in
theorem indexL_any (v : Value) (L : List (List Wr)) (B0 : Nat) (win : Int) (w : World) (h : LRow w v L) (hn : L.length ≤ 1000000) (hq : ∀ q ∈ L, q.length ≤ 1000000) (h0 : w.cell? ⟨B0, 0, none⟩ = some (.int .i64 win)) :
    Calls Try.prog 32 #[v, .func (.func 28) #[] #[.pointer (some ⟨B0, 0, none⟩)]] w fun e w' => (∃ i : Int, e = .returned (.int .i64 i) ∧ decide (0 ≤ i) = waits win L) ∧ Below w.heap.size w w' := by
  obtain ⟨a, c, rfl, hc, hl⟩ := h.open
  have HL := Lib.hid hl
  have HQ := Lib.hid (fun k (hk : k < L.length) => hq _ (List.getElem_mem hk))
  have H0 := Lib.hid h0
  rw [waits_any]
  obtain ⟨F, HF⟩ : ∃ F, Hid (L.any (hasW win) = F) := ⟨_, rfl⟩
  rw [HF.out]
  clear hl h0 h hq
  go_enter Try.func32, Try.ntmps32
  go_wp2_with fail
  go_loopw [8] (fun i wr => ∃ k : Nat, k ≤ L.length ∧ i = .int .i64 k ∧ Hid (Below w.heap.size w wr) ∧ Hid ((L.take k).any (hasW win) = false)) (fun i _ => L.length - (intOf i).toNat)
  case atStart => exact ⟨0, Nat.zero_le _, rfl, Below.refl _ _, rfl⟩
  case round =>
    obtain ⟨k, hk, rfl, HD, HT⟩ := hrel
    by_cases hlt : k < L.length
    · obtain ⟨b, o, s, rfl, hb2, hs, hw⟩ := (HL.out.on HD.out) k hlt
      have hql := HQ.out k hlt
      have i1 : (k : Int) < (L.length : Int) := by omega
      have i2 : (0 : Int) ≤ (k : Int) := by omega
      have HX : Hid (hasW win L[k] = true → F = true) := fun h => (HF.out).symm.trans (any_mem (f := hasW win) hlt h)
      have HN : Hid (hasW win L[k] = false → (L.take (k + 1)).any (hasW win) = false) := fun h => by
        rw [any_takeL _ _ _ hlt, HT.out, h]; rfl
      have HC := Lib.hid (queueW_any s L[k] B0 win wr hw hql (keepC HD.out H0.out (World.block_lt_of_cell? _ _ H0.out)))
      obtain ⟨a2, c2, rfl, -, -⟩ := hw
      generalize L[k] = q at *
      clear HL HT
      cases T : hasW win q
      · have HM := Lib.hid (HN.out T)
        rw [T] at HC
        clear HX HN
        go_wp2_with (go_at_call 28; refine HC.out.mono ?_; rintro e w1 ⟨rfl, n1⟩)
        exact ⟨⟨k + 1, by omega, by go_num, HD.out.trans (n1.mono HD.out.size), HM⟩, by simp [intOf]; omega⟩
      · have HM := Lib.hid (HX.out T)
        rw [T] at HC
        clear HX HN
        go_wp2_with (go_at_call 28; refine HC.out.mono ?_; rintro e w1 ⟨rfl, n1⟩)
        go_ret
        exact ⟨⟨_, rfl, by rw [HM.out]; exact decide_eq_true i2⟩, HD.out.trans (n1.mono HD.out.size)⟩
    · have HM : Hid (F = false) := Lib.hid ((HF.out).symm.trans ((any_all hlt).symm.trans HT.out))
      have i1 : ¬ (k : Int) < (L.length : Int) := by omega
      go_wp2_with fail
      go_ret
      exact ⟨⟨_, rfl, by rw [HM.out]; rfl⟩, HD.out⟩

set_option maxRecDepth 100000 in
set_option maxHeartbeats 2000000 in
theorem containsL_any (v : Value) (L : List (List Wr)) (B0 : Nat) (win : Int) (w : World) (h : LRow w v L) (hn : L.length ≤ 1000000) (hq : ∀ q ∈ L, q.length ≤ 1000000) (h0 : w.cell? ⟨B0, 0, none⟩ = some (.int .i64 win)) :
    Calls Try.prog 27 #[v, .func (.func 28) #[] #[.pointer (some ⟨B0, 0, none⟩)]] w fun e w' => e = .returned (.bool (waits win L)) ∧ Below w.heap.size w w' := by
  have HC := Lib.hid (indexL_any v L B0 win w h hn hq h0)
  obtain ⟨a, c, rfl, -, -⟩ := h.open
  clear h0
  go_enter Try.func27, Try.ntmps27
  go_wp2_with (go_at_call 32; refine HC.out.mono ?_; rintro e w1 ⟨⟨i, rfl, hi⟩, n1⟩)
  go_ret
  exact ⟨by simp, n1⟩

set_option maxRecDepth 100000 in
set_option maxHeartbeats 2000000 in
theorem waits_own (win : Int) (v : Value) (L : List (List Wr)) (w : World) (h : LRow w v L) (hn : L.length ≤ 1000000) (hq : ∀ q ∈ L, q.length ≤ 1000000) :
    Calls Try.prog 17 #[.int .i64 win, v] w fun e w' => e = .returned (.bool (waits win L)) ∧ Below w.heap.size w w' := by
  have d0 := Lib.hid (aBelow w (.cells #[.int .i64 win] 2))
  have HC := Lib.hid (containsL_any v L w.heap.size win (w.alloc (.cells #[.int .i64 win] 2)) (h.on d0.out) hn hq (by simp))
  obtain ⟨a, c, rfl, -, -⟩ := h.open
  go_enter Try.func17, Try.ntmps17
  go_wp2_with (go_at_call 27; refine HC.out.mono ?_; rintro e w1 ⟨rfl, n1⟩)
  go_ret
  exact ⟨rfl, d0.out.trans (n1.mono d0.out.size)⟩
end Go.Proofs.Ytmgfgfkkhcibcaa.Se
