/- The program's own reading of changes: what a part tells; a walk. -/
import Derived.Test.YtehgpibngalhfaaGreatDoorM9
import Derived.Test.YtehgpibngalhfaaGreatDoorN7
import Derived.Test.YtehgpibngalhfaaGreatDoorO3
namespace Go.Proofs.YtehgpibngalhfaaGreatDoor.Rw
open Go Go.RowKit Go.Sort Go.Lib Tg Pk Ky Qy Df

theorem cutMark_yes {s : ByteArray} {q : List UInt8} (h : s.data.toList = 33 :: q) (w : World) :
    Calls Tryz.prog 57 #[.string s, .string ⟨#[33]⟩] w fun e w' => e = .returned (.tuple #[.string (bb q), .bool true]) ∧ w' = w := by
  refine (Tryz.strings_CutPrefix s ⟨#[33]⟩ w).mono ?_
  rintro e w' ⟨rfl, rfl⟩
  have e1 : Lib.trimPrefix s.data.toList [33] = q := by rw [h]; simp [Lib.trimPrefix, Lib.hasPrefix, List.isPrefixOf]
  have e2 : Lib.hasPrefix s.data.toList [33] = true := by rw [h]; simp [Lib.hasPrefix, List.isPrefixOf]
  exact ⟨by rw [e1, e2]; rfl, rfl⟩
theorem cutMark_no {s : ByteArray} (h : s.data.toList.head? ≠ some 33) (w : World) :
    Calls Tryz.prog 57 #[.string s, .string ⟨#[33]⟩] w fun e w' => e = .returned (.tuple #[.string s, .bool false]) ∧ w' = w := by
  refine (Tryz.strings_CutPrefix s ⟨#[33]⟩ w).mono ?_
  rintro e w' ⟨rfl, rfl⟩
  have e2 : Lib.hasPrefix s.data.toList [33] = false := by
    cases hs : s.data.toList with
    | nil => simp [Lib.hasPrefix]
    | cons c r =>
      rw [hs] at h
      have h' : ((33 : UInt8) == c) = false := by
        cases hq : ((33 : UInt8) == c)
        · rfl
        · exfalso; have := eq_of_beq hq; subst this; exact h rfl
      simp [Lib.hasPrefix, h', List.isPrefixOf]
  have e1 : Lib.trimPrefix s.data.toList [33] = s.data.toList := by
    unfold Lib.trimPrefix
    rw [e2]; rfl
  exact ⟨by rw [e1, e2], rfl⟩
theorem app_list (q : List UInt8) : (bb q ++ ⟨#[124, 48]⟩ : ByteArray).data.toList = q ++ [124, 48] := by simp [ByteArray.data_append, bb]
theorem part_sz {s : ByteArray} {M : Nat} (h : s.size ≤ M) : ∀ x ∈ partsB 59 s, x.size ≤ M := fun x hx => by have := part_le hx; omega

set_option maxRecDepth 100000 in
set_option maxHeartbeats 1000000 in
theorem read_come_bad (B : Nat) (s : ByteArray) (w : World) (hE : Env w) (hF : St.Env B w) (hs : s.size ≤ 890) (hh : s.data.toList.head? ≠ some 33) (E : Int) (he : (rparse s.data.toList).2 = E) (hE0 : ¬ E = 0) :
    Calls Tryz.prog 41 #[.string s] w fun e w' => e = .returned (.tuple #[chV zchg, .int .i64 E]) ∧ Below w.heap.size w w' := by
  have HC := Lib.hid (fun W => cutMark_no hh W)
  have HP := Lib.hid (fun W (d : Below w.heap.size w W) => rparse_any B s W (hE.go d) (hF.go d) (by omega) (part_sz (by omega)))
  rw [he] at HP
  have z1 : (E != 0) = true := by simp [hE0]
  have z2 : (E == 0) = false := by simp [hE0]
  generalize (rparse s.data.toList).1 = L at *
  clear he hE hF hs hh
  go_enter Tryz.func41, Tryz.ntmps41
  have X := CZ.new w
  have n0 := aBelow w (.cells #[.int .i64 0, .string ⟨#[]⟩, .int .i64 0, .bool false, .bool false] 47)
  go_wp2_with fail
  refine (HC.out _).mono ?_
  rintro e w1 ⟨rfl, hw1⟩
  have hw1 := hw1.symm
  subst hw1
  go_wp2_with fail
  refine (HP.out _ n0).mono ?_
  rintro e w2 ⟨⟨v, rfl, hv⟩, n2⟩
  have X := X.on n2
  have d2 := n0.trans (n2.mono n0.size)
  obtain ⟨a, c, rfl, _, _⟩ := hv
  obtain ⟨⟨x0, x1, x2, x3, x4⟩, f0, f1, f2, f3, f4⟩ := id X
  go_wp2_with fail
  refine bodyPost_ret (v := .tuple #[.agg #[.int .i64 0, .string ⟨#[]⟩, .int .i64 0, .bool false, .bool false], .int .i64 E]) (by simp [results, Tryz.results41, go_sem, x0, x1, x2, x3, x4]) rfl ⟨rfl, ?_⟩
  exact (((d2.setCell (p := ⟨w.heap.size, 0, none⟩) (Nat.le_refl _) _).setCell (p := ⟨w.heap.size, 1, none⟩) (Nat.le_refl _) _).setCell (p := ⟨w.heap.size, 2, none⟩) (Nat.le_refl _) _).setCell (p := ⟨w.heap.size, 3, none⟩) (Nat.le_refl _) _ |>.setCell (p := ⟨w.heap.size, 4, none⟩) (Nat.le_refl _) _

set_option maxRecDepth 100000 in
set_option maxHeartbeats 1000000 in
theorem read_come_none (B : Nat) (s : ByteArray) (w : World) (hE : Env w) (hF : St.Env B w) (hs : s.size ≤ 890) (hh : s.data.toList.head? ≠ some 33) (he : rparse s.data.toList = ([], 0)) :
    Calls Tryz.prog 41 #[.string s] w fun e w' => e = .returned (.tuple #[chV zchg, .int .i64 2]) ∧ Below w.heap.size w w' := by
  have HC := Lib.hid (fun W => cutMark_no hh W)
  have HP := Lib.hid (fun W (d : Below w.heap.size w W) => rparse_any B s W (hE.go d) (hF.go d) (by omega) (part_sz (by omega)))
  rw [he] at HP
  clear he hE hF hs hh
  go_enter Tryz.func41, Tryz.ntmps41
  have X := CZ.new w
  have n0 := aBelow w (.cells #[.int .i64 0, .string ⟨#[]⟩, .int .i64 0, .bool false, .bool false] 47)
  go_wp2_with fail
  refine (HC.out _).mono ?_
  rintro e w1 ⟨rfl, hw1⟩
  have hw1 := hw1.symm
  subst hw1
  go_wp2_with fail
  refine (HP.out _ n0).mono ?_
  rintro e w2 ⟨⟨v, rfl, hv⟩, n2⟩
  have X := X.on n2
  have d2 := n0.trans (n2.mono n0.size)
  obtain ⟨a, c, rfl, _, _⟩ := hv
  obtain ⟨⟨x0, x1, x2, x3, x4⟩, f0, f1, f2, f3, f4⟩ := id X
  go_wp2_with fail
  refine bodyPost_ret (v := .tuple #[.agg #[.int .i64 0, .string ⟨#[]⟩, .int .i64 0, .bool false, .bool false], .int .i64 2]) (by simp [results, Tryz.results41, go_sem, x0, x1, x2, x3, x4]) rfl ⟨rfl, ?_⟩
  exact (((d2.setCell (p := ⟨w.heap.size, 0, none⟩) (Nat.le_refl _) _).setCell (p := ⟨w.heap.size, 1, none⟩) (Nat.le_refl _) _).setCell (p := ⟨w.heap.size, 2, none⟩) (Nat.le_refl _) _).setCell (p := ⟨w.heap.size, 3, none⟩) (Nat.le_refl _) _ |>.setCell (p := ⟨w.heap.size, 4, none⟩) (Nat.le_refl _) _

set_option maxRecDepth 100000 in
set_option maxHeartbeats 1000000 in
theorem read_come_ok (B : Nat) (s : ByteArray) (w : World) (hE : Env w) (hF : St.Env B w) (hs : s.size ≤ 890) (hh : s.data.toList.head? ≠ some 33) (r : Row) (he : rparse s.data.toList = ([r], 0)) :
    Calls Tryz.prog 41 #[.string s] w fun e w' => e = .returned (.tuple #[chV ⟨r, false⟩, .int .i64 0]) ∧ Below w.heap.size w w' := by
  have HC := Lib.hid (fun W => cutMark_no hh W)
  have HP := Lib.hid (fun W (d : Below w.heap.size w W) => rparse_any B s W (hE.go d) (hF.go d) (by omega) (part_sz (by omega)))
  rw [he] at HP
  clear he hE hF hs hh
  go_enter Tryz.func41, Tryz.ntmps41
  have X := CZ.new w
  have n0 := aBelow w (.cells #[.int .i64 0, .string ⟨#[]⟩, .int .i64 0, .bool false, .bool false] 47)
  go_wp2_with fail
  refine (HC.out _).mono ?_
  rintro e w1 ⟨rfl, hw1⟩
  have hw1 := hw1.symm
  subst hw1
  go_wp2_with fail
  refine (HP.out _ n0).mono ?_
  rintro e w2 ⟨⟨v, rfl, hv⟩, n2⟩
  have X := X.on n2
  have d2 := n0.trans (n2.mono n0.size)
  obtain ⟨b, o, c, rfl, hc, hb, hL, e1, e2, e3, e4⟩ := row_first hv
  obtain ⟨r1, r2, r3, r4⟩ := r
  simp only at e1 e2 e3 e4
  simp only [List.length_nil, Nat.zero_add]
  clear hL hv
  obtain ⟨⟨x0, x1, x2, x3, x4⟩, f0, f1, f2, f3, f4⟩ := id X
  go_wp2_with fail
  refine bodyPost_ret (v := .tuple #[.agg #[.int .i64 r1, .string r2, .int .i64 r3, .bool r4, .bool false], .int .i64 0]) (by simp [results, Tryz.results41, go_sem, x0, x1, x2, x3, x4]) rfl ⟨rfl, ?_⟩
  exact (((d2.setCell (p := ⟨w.heap.size, 0, none⟩) (Nat.le_refl _) _).setCell (p := ⟨w.heap.size, 1, none⟩) (Nat.le_refl _) _).setCell (p := ⟨w.heap.size, 2, none⟩) (Nat.le_refl _) _).setCell (p := ⟨w.heap.size, 3, none⟩) (Nat.le_refl _) _ |>.setCell (p := ⟨w.heap.size, 4, none⟩) (Nat.le_refl _) _

set_option maxRecDepth 100000 in
set_option maxHeartbeats 1000000 in
theorem read_gone_bad (B : Nat) (s : ByteArray) (w : World) (hE : Env w) (hF : St.Env B w) (hs : s.size ≤ 890) (q : List UInt8) (hh : s.data.toList = 33 :: q) (E : Int) (he : (rparse (q ++ [124, 48])).2 = E) (hE0 : ¬ E = 0) :
    Calls Tryz.prog 41 #[.string s] w fun e w' => e = .returned (.tuple #[chV zchg, .int .i64 E]) ∧ Below w.heap.size w w' := by
  have HC := Lib.hid (fun W => cutMark_yes hh W)
  have hq : (bb q).size ≤ 889 := by
    have e1 : (bb q).size = q.length := by show q.toArray.size = _; simp
    have e2 : s.size = s.data.toList.length := (Array.length_toList).symm
    rw [hh, List.length_cons] at e2
    omega
  have e3 : (bb q ++ ⟨#[124, 48]⟩ : ByteArray).size = (bb q).size + 2 := by rw [ba_size]; rfl
  have a1 : ∀ w', Sem.run Tryz.prog (Op.stringOp .add (bb q) ⟨#[124, 48]⟩) w' = .ok (.string (bb q ++ ⟨#[124, 48]⟩)) w' := fun w' => run_string_add_sum w' _ _ (by show (bb q).size + 2 ≤ _; omega)
  have HP := Lib.hid (fun W (d : Below w.heap.size w W) => rparse_any B (bb q ++ ⟨#[124, 48]⟩) W (hE.go d) (hF.go d) (by omega) (part_sz (by omega)))
  rw [app_list q] at HP
  generalize bb q ++ ⟨#[124, 48]⟩ = T at *
  generalize bb q = D at *
  clear e3 hq
  rw [he] at HP
  have z1 : (E != 0) = true := by simp [hE0]
  have z2 : (E == 0) = false := by simp [hE0]
  generalize (rparse (q ++ [124, 48])).1 = L at *
  clear he hE hF hs hh
  go_enter Tryz.func41, Tryz.ntmps41
  have X := CZ.new w
  have n0 := aBelow w (.cells #[.int .i64 0, .string ⟨#[]⟩, .int .i64 0, .bool false, .bool false] 47)
  go_wp2_with fail
  refine (HC.out _).mono ?_
  rintro e w1 ⟨rfl, hw1⟩
  have hw1 := hw1.symm
  subst hw1
  go_wp2_with fail
  refine (HP.out _ n0).mono ?_
  rintro e w2 ⟨⟨v, rfl, hv⟩, n2⟩
  have X := X.on n2
  have d2 := n0.trans (n2.mono n0.size)
  obtain ⟨a, c, rfl, _, _⟩ := hv
  obtain ⟨⟨x0, x1, x2, x3, x4⟩, f0, f1, f2, f3, f4⟩ := id X
  go_wp2_with fail
  refine bodyPost_ret (v := .tuple #[.agg #[.int .i64 0, .string ⟨#[]⟩, .int .i64 0, .bool false, .bool false], .int .i64 E]) (by simp [results, Tryz.results41, go_sem, x0, x1, x2, x3, x4]) rfl ⟨rfl, ?_⟩
  exact (((d2.setCell (p := ⟨w.heap.size, 0, none⟩) (Nat.le_refl _) _).setCell (p := ⟨w.heap.size, 1, none⟩) (Nat.le_refl _) _).setCell (p := ⟨w.heap.size, 2, none⟩) (Nat.le_refl _) _).setCell (p := ⟨w.heap.size, 3, none⟩) (Nat.le_refl _) _ |>.setCell (p := ⟨w.heap.size, 4, none⟩) (Nat.le_refl _) _

set_option maxRecDepth 100000 in
set_option maxHeartbeats 1000000 in
theorem read_gone_ok (B : Nat) (s : ByteArray) (w : World) (hE : Env w) (hF : St.Env B w) (hs : s.size ≤ 890) (q : List UInt8) (hh : s.data.toList = 33 :: q) (r : Row) (he : rparse (q ++ [124, 48]) = ([r], 0)) :
    Calls Tryz.prog 41 #[.string s] w fun e w' => e = .returned (.tuple #[chV ⟨r, true⟩, .int .i64 0]) ∧ Below w.heap.size w w' := by
  have HC := Lib.hid (fun W => cutMark_yes hh W)
  have hq : (bb q).size ≤ 889 := by
    have e1 : (bb q).size = q.length := by show q.toArray.size = _; simp
    have e2 : s.size = s.data.toList.length := (Array.length_toList).symm
    rw [hh, List.length_cons] at e2
    omega
  have e3 : (bb q ++ ⟨#[124, 48]⟩ : ByteArray).size = (bb q).size + 2 := by rw [ba_size]; rfl
  have a1 : ∀ w', Sem.run Tryz.prog (Op.stringOp .add (bb q) ⟨#[124, 48]⟩) w' = .ok (.string (bb q ++ ⟨#[124, 48]⟩)) w' := fun w' => run_string_add_sum w' _ _ (by show (bb q).size + 2 ≤ _; omega)
  have HP := Lib.hid (fun W (d : Below w.heap.size w W) => rparse_any B (bb q ++ ⟨#[124, 48]⟩) W (hE.go d) (hF.go d) (by omega) (part_sz (by omega)))
  rw [app_list q] at HP
  generalize bb q ++ ⟨#[124, 48]⟩ = T at *
  generalize bb q = D at *
  clear e3 hq
  rw [he] at HP
  clear he hE hF hs hh
  go_enter Tryz.func41, Tryz.ntmps41
  have X := CZ.new w
  have n0 := aBelow w (.cells #[.int .i64 0, .string ⟨#[]⟩, .int .i64 0, .bool false, .bool false] 47)
  go_wp2_with fail
  refine (HC.out _).mono ?_
  rintro e w1 ⟨rfl, hw1⟩
  have hw1 := hw1.symm
  subst hw1
  go_wp2_with fail
  refine (HP.out _ n0).mono ?_
  rintro e w2 ⟨⟨v, rfl, hv⟩, n2⟩
  have X := X.on n2
  have d2 := n0.trans (n2.mono n0.size)
  obtain ⟨b, o, c, rfl, hc, hb, hL, e1, e2, e3, e4⟩ := row_first hv
  obtain ⟨r1, r2, r3, r4⟩ := r
  simp only at e1 e2 e3 e4
  simp only [List.length_nil, Nat.zero_add]
  clear hL hv
  obtain ⟨⟨x0, x1, x2, x3, x4⟩, f0, f1, f2, f3, f4⟩ := id X
  go_wp2_with fail
  refine bodyPost_ret (v := .tuple #[.agg #[.int .i64 r1, .string r2, .int .i64 r3, .bool r4, .bool true], .int .i64 0]) (by simp [results, Tryz.results41, go_sem, x0, x1, x2, x3, x4]) rfl ⟨rfl, ?_⟩
  exact (((d2.setCell (p := ⟨w.heap.size, 0, none⟩) (Nat.le_refl _) _).setCell (p := ⟨w.heap.size, 1, none⟩) (Nat.le_refl _) _).setCell (p := ⟨w.heap.size, 2, none⟩) (Nat.le_refl _) _).setCell (p := ⟨w.heap.size, 3, none⟩) (Nat.le_refl _) _ |>.setCell (p := ⟨w.heap.size, 4, none⟩) (Nat.le_refl _) _

/-- What a part tells. -/
theorem cread_any (B : Nat) (s : ByteArray) (w : World) (hE : Env w) (hF : St.Env B w) (hs : s.size ≤ 890) (h59 : (59 : UInt8) ∉ s.data.toList) :
    Calls Tryz.prog 41 #[.string s] w fun e w' => e = .returned (.tuple #[chV (cread s.data.toList).1, .int .i64 (cread s.data.toList).2]) ∧ Below w.heap.size w w' := by
  by_cases hb : s.data.toList = [45]
  · have e : rparse s.data.toList = ([], 0) := by rw [hb]; unfold rparse; rw [if_pos rfl]
    have := read_come_none B s w hE hF hs (by rw [hb]; simp) e
    rw [hb, cread_bar]
    exact this
  · by_cases hh : s.data.toList.head? = some 33
    · obtain ⟨q, hq⟩ : ∃ q, s.data.toList = 33 :: q := by
        cases hs : s.data.toList with
        | nil => rw [hs] at hh; cases hh
        | cons c r => rw [hs] at hh; injection hh with hh; subst hh; exact ⟨r, rfl⟩
      have h59q : (59 : UInt8) ∉ q := fun h => h59 (by rw [hq]; exact List.mem_cons_of_mem _ h)
      obtain ⟨g1, g2⟩ := goneRead_row h59q
      by_cases h0 : (rparse (q ++ [124, 48])).2 = 0
      · obtain ⟨r, hr, hg⟩ := g1 h0
        have := read_gone_ok B s w hE hF hs q hq r (Prod.ext hr h0)
        rw [hq, cread_gone, hg]
        exact this
      · have := read_gone_bad B s w hE hF hs q hq _ rfl h0
        rw [hq, cread_gone, g2 h0]
        exact this
    · obtain ⟨g1, g2⟩ := comeRead_row hb h59
      by_cases h0 : (rparse s.data.toList).2 = 0
      · obtain ⟨r, hr, hg⟩ := g1 h0
        have := read_come_ok B s w hE hF hs hh r (Prod.ext hr h0)
        rw [cread_come hb hh, hg]
        exact this
      · have := read_come_bad B s w hE hF hs hh _ rfl h0
        rw [cread_come hb hh, g2 h0]
        exact this
set_option maxRecDepth 100000 in
set_option maxHeartbeats 2000000 in
theorem cparse_any (B : Nat) (s : ByteArray) (w : World) (hE : Env w) (hF : St.Env B w) (hs : s.size ≤ 900000) (hp : ∀ x ∈ partsB 59 s, x.size ≤ 890) :
    Calls Tryz.prog 20 #[.string s] w fun e w' => (∃ v', e = .returned (.tuple #[v', .int .i64 (cparse s.data.toList).2]) ∧ CRow w' v' (cparse s.data.toList).1) ∧ Below w.heap.size w w' := by
  by_cases h0 : s.data.toList = [45]
  · rw [cparse_none' h0]
    have hq : (s.toList == ([45] : List UInt8)) = true := by rw [ByteArray.toList_eq, h0]; rfl
    have e : s = ⟨#[45]⟩ := bb_inj (by rw [h0])
    subst e
    go_enter Tryz.func20, Tryz.ntmps20
    go_wp2
    go_ret2
    exact ⟨⟨_, rfl, GRow.nil _⟩, Below.refl _ _⟩
  · have hq : (s.toList == (⟨#[45]⟩ : ByteArray).toList) = false := by
      rw [beq_ba]
      cases hc : eqB s ⟨#[45]⟩
      · rfl
      · exfalso; have := (eqB_true _ _).1 hc; subst this; exact h0 rfl
    have e45 : (⟨#[45]⟩ : ByteArray).toList = [45] := by rw [ByteArray.toList_eq]
    have hq1 : (s.toList == ([45] : List UInt8)) = false := by rw [← e45]; exact hq
    clear hq e45
    have hq2 : (([45] : List UInt8) == s.toList) = false := by
      cases hc : (([45] : List UInt8) == s.toList)
      · rfl
      · have := eq_of_beq hc; rw [← this] at hq1; simp at hq1
    have hq3 : ¬ s.toList = ([45] : List UInt8) := fun e => by rw [e] at hq1; simp at hq1
    have HSP := Lib.hid (ssplit_any s 59 w hE (by omega))
    have HE := Lib.hid hE
    have HF := Lib.hid hF
    have H59 : ∀ x ∈ partsB 59 s, (59 : UInt8) ∉ x.data.toList := fun x hx => by
      unfold partsB at hx
      obtain ⟨y, hy, rfl⟩ := List.mem_map.1 hx
      rw [ba_list]; exact parts_clean 59 _ _ hy
    have H59 := Lib.hid H59
    have HP := Lib.hid hp
    have HP2 := Lib.hid (part_small (s := s))
    have HB1 := fun k (hk : k < (partsB 59 s).length) h1 h2 => Lib.hid (cparse_bad' h0 hk h1 h2)
    have HB2 := fun k (hk : ¬ k < (partsB 59 s).length) h1 => Lib.hid (cparse_fine' h0 hk h1)
    have hlen : (partsB 59 s).length ≤ 900001 := by have := parts_le 59 s; omega
    obtain ⟨i0, hi, hz0, hz1, hz2⟩ := info48
    have HI := Lib.hid (And.intro hi (And.intro hz0 (And.intro hz1 hz2)))
    obtain ⟨C, HC⟩ : ∃ C, Hid (cparse s.data.toList = C) := ⟨_, rfl⟩
    rw [HC.out]
    have HB3 := fun k (hk : k < (partsB 59 s).length) h1 h2 => Lib.hid ((HC.out).symm.trans (HB1 k hk h1 h2).out)
    have HB4 := fun k (hk : ¬ k < (partsB 59 s).length) h1 => Lib.hid ((HC.out).symm.trans (HB2 k hk h1).out)
    clear HB1 HB2 HC
    generalize partsB 59 s = P at *
    clear hp h0 hi hz0 hz1 hz2 hE hF
    go_enter Tryz.func20, Tryz.ntmps20
    go_wp2_with fail
    refine (HSP.out).mono ?_
    rintro e w1 ⟨⟨v, rfl, hv⟩, n1⟩
    have HV := Lib.hid hv
    obtain ⟨a, c, rfl, hc, hl⟩ := hv
    have HL := Lib.hid hl
    clear hl HSP
    go_wp2_with fail
    go_loopw [4, 14] (fun lv i wr => ∃ (k : Nat), k ≤ P.length ∧ i = .int .i64 k ∧ Hid (wr.ownsRow w1.heap.size 47 5 lv (chgsTo P k).length (flatG chC (chgsTo P k))) ∧ Hid (fineC P k) ∧ Hid (Below w1.heap.size w1 wr)) (fun _ i _ => P.length - (intOf i).toNat)
    case atStart => exact ⟨0, Nat.zero_le _, rfl, ownG_nil _ _ _, fun j _ hj => absurd hj (Nat.not_lt_zero j), Below.refl _ _⟩
    case round =>
      obtain ⟨k, hk, rfl, HO, HT, HD⟩ := hrel
      by_cases hlt : k < P.length
      · obtain ⟨b, o, rfl, hb, hL⟩ := HL.out (ne_of_lt hlt)
        have hcell : wr.cell? ⟨b, o + k, none⟩ = some (.string P[k]) := by rw [(HD.out).cell (p := ⟨b, o + k, none⟩) hb]; exact hL.at k hlt
        have i1 : (k : Int) < (P.length : Int) := by omega
        have i2 : (0 : Int) ≤ (k : Int) := by omega
        have hz := (HD.out).size
        have hbw : Below w.heap.size w wr := n1.trans ((HD.out).mono n1.size)
        have hx9 := HP.out _ (List.getElem_mem hlt)
        have HR := cread_any B P[k] wr (HE.out.go hbw) (HF.out.go hbw) hx9 (H59.out _ (List.getElem_mem hlt))
        have HN := Lib.hid (chgsTo_next hlt)
        have HX : Hid (¬ (cread (P[k]).data.toList).2 = 0 → C = ([], (cread (P[k]).data.toList).2)) := fun h => (HB3 k hlt HT.out h).out
        have HY : Hid ((cread (P[k]).data.toList).2 = 0 → fineC P (k + 1)) := fun h => fineC_next hlt HT.out h
        have hrl := chgsTo_len P k
        generalize cread (P[k]).data.toList = R at *
        generalize P[k] = x at *
        generalize chgsTo P k = L at *
        obtain ⟨⟨⟨r1, r2, r3, r4⟩, r5⟩, E⟩ := R
        simp only at HX HY HN
        have HR2 : Hid (Calls Tryz.prog 41 #[.string x] wr fun e w' => e = .returned (.tuple #[.agg #[.int .i64 r1, .string r2, .int .i64 r3, .bool r4, .bool r5], .int .i64 E]) ∧ Below wr.heap.size wr w') := HR
        clear HR hL hb HL HT HV hbw hx9
        by_cases hE0 : E = 0
        · have HM := Lib.hid (HY.out hE0)
          subst hE0
          clear HX HY
          go_wp2_with fail
          refine (HR2.out).mono ?_
          rintro e w2 ⟨rfl, n2⟩
          have HO2 := Lib.hid (own_on HO.out n2)
          have HD2 := Lib.hid ((HD.out).trans (n2.mono hz))
          have hz2 : w1.heap.size ≤ w2.heap.size := Nat.le_trans hz n2.size
          clear n2 HO HD HR2 hcell
          go_wp2_with (first | (at_builtin; refine wpList_append_own _ rfl _ _ 25 rfl w1.heap.size 47 i0 (.agg #[.int .i64 0, .string ⟨#[]⟩, .int .i64 0, .bool false, .bool false]) 5 48 Tryz.underlying25 HI.out.1 HI.out.2.1 HI.out.2.2.1 HI.out.2.2.2 rfl (by decide) _ _ _ rfl ((HO2.out.alloc _).alloc _) ⟨w2.heap.size + 1, 0, none⟩ 1 1 (chC ⟨⟨r1, r2, r3, r4⟩, r5⟩) rfl rfl (new2C w2 _ ⟨⟨r1, r2, r3, r4⟩, r5⟩) (chC_one _) (by unfold maxLen; omega) (by omega) (by simp; omega) ?_; intro v' w3 hown hgrow hnil))
          have HO3 := Lib.hid (ownG_next hown)
          have hb3 := Lib.hid (ownG_below ((HD2.out).alloc hz2 _) (by simp; omega) (HO2.out.alloc _) hgrow)
          clear hown hgrow
          exact ⟨⟨k + 1, by omega, by go_num, by rw [HN.out]; exact HO3, HM, hb3⟩, by simp [intOf]; omega⟩
        · have HM := Lib.hid (HX.out hE0)
          have z1 : (E != 0) = true := by simp [hE0]
          have z2 : (E == 0) = false := by simp [hE0]
          clear HX HY
          go_wp2_with fail
          refine (HR2.out).mono ?_
          rintro e w2 ⟨rfl, n2⟩
          have HD2 := Lib.hid ((HD.out).trans (n2.mono hz))
          have hz2 : w1.heap.size ≤ w2.heap.size := Nat.le_trans hz n2.size
          clear n2 HO HD HR2 hcell
          go_wp2_with fail
          go_ret2
          refine ⟨⟨.slice none 0 0, ?_, ?_⟩, n1.trans (((HD2.out).alloc hz2 _).mono n1.size)⟩
          · rw [HM.out]; rfl
          · rw [HM.out]; exact GRow.nil _
      · have i1 : ¬ (k : Int) < (P.length : Int) := by omega
        have HM := HB4 k hlt HT.out
        have hr := ownG_row chC_len HO.out
        have hrl := chgsTo_len P k
        have hgs := chgsTo_small HP2.out hlt HT.out
        generalize chgsTo P k = L at *
        have hbw : Below w.heap.size w wr := n1.trans ((HD.out).mono n1.size)
        have HK := Lib.hid (ordered_any _ L wr (HE.out.go hbw) hr (by omega) hgs)
        have HRR := Lib.hid hr
        obtain ⟨a2, c2, rfl, _, _⟩ := hr
        clear HO HL HV HB3 HB4 hbw
        cases hri : cright L
        · rw [hri, if_neg (by simp)] at HM
          rw [hri] at HK
          go_wp2_with (first | (go_at_call 35; refine (HK.out).mono ?_; rintro e w3 ⟨rfl, g3⟩))
          go_ret2
          refine ⟨⟨.slice none 0 0, ?_, ?_⟩, n1.trans ((((HD.out).trans (g3.mono (HD.out).size))).mono n1.size)⟩
          · rw [HM.out]; rfl
          · rw [HM.out]; exact GRow.nil _
        · rw [hri, if_pos rfl] at HM
          rw [hri] at HK
          go_wp2_with (first | (go_at_call 35; refine (HK.out).mono ?_; rintro e w3 ⟨rfl, g3⟩))
          go_ret2
          refine ⟨⟨.slice a2 L.length c2, ?_, ?_⟩, n1.trans ((((HD.out).trans (g3.mono (HD.out).size))).mono n1.size)⟩
          · rw [HM.out]; rfl
          · rw [HM.out]; exact HRR.out.on g3


end Go.Proofs.YtehgpibngalhfaaGreatDoor.Rw
