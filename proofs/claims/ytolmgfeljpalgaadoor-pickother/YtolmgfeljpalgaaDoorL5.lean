/- Walks: the law PickOther. -/
import Derived.Test.YtolmgfeljpalgaaDoorL3
import Derived.Test.YtolmgfeljpalgaaDoorP8
namespace Go.Proofs.YtolmgfeljpalgaaDoor
open Go Go.RowKit Tg Pk

theorem row_match (w : World) (k : Int) (n v : ByteArray) : MRow (w.alloc (.cells #[.int .i64 k, .string n, .string v] 39)) (.slice (some ⟨w.heap.size, 0, none⟩) 1 1) [(k, n, v)] := by
  refine ⟨_, 1, rfl, Nat.le_refl _, fun _ => ⟨_, 0, rfl, by simp, ?_⟩⟩
  intro i hi
  match i, hi with
  | 0, _ => refine ⟨?_, ?_, ?_⟩ <;> simp
theorem fits_one (t : List Tag) (k : Int) (n v : ByteArray) : pfits t [(k, n, v)] = pfit k v (find t n).1 (find t n).2 := by
  unfold pfits pone
  simp

set_option maxHeartbeats 1000000 in
theorem other_skip (tv : Value) (t : List Tag) (x : Tag) (c : UInt8) (w : World) (hE : Env w) (ht : TRow w tv t) (hz : ∀ y ∈ t, y.1.size ≤ 281474976710656 ∧ y.2.size ≤ 281474976710656) (h1 : x.1.size ≤ 281474976710656) (h2 : x.2.size ≤ 281474976710656)
    (hg : greatT t = true ∨ (greatT t = false ∧ 100 < x.1.size) ∨ (greatT t = false ∧ ¬ 100 < x.1.size ∧ 100 < x.2.size)) :
    Calls Tryd.prog 7 #[tv, .agg #[.string x.1, .string x.2], .int .u8 (c.toNat : Int)] w fun e w' => e = .returned (.bool true) ∧ Below w.heap.size w w' := by
  rcases hg with hg | ⟨hg, h3⟩ | ⟨hg, h3, h4⟩
  all_goals
    go_enter Tryd.func7, Tryd.ntmps7
    go_wp2_with fail
    refine (alive_any _ (hE.alloc _)).mono ?_
    rintro e w1 ⟨rfl, n1⟩
    have c0 := newC (i := 0) n1
    have c1 := newC (i := 1) n1
    simp at c0 c1
    have d1 := belowA n1
    have hr1 := ht.on d1
    clear n1
    go_wp2_with fail
    refine (great_any _ t w1 hr1 hz).mono ?_
    rintro e w2 ⟨rfl, hw⟩
    have hw := hw.symm
    subst hw
    rw [hg]
    go_wp2_with fail
    go_ret
    exact ⟨rfl, d1⟩

set_option maxHeartbeats 1000000 in
theorem other_main (tv : Value) (t : List Tag) (x : Tag) (c : UInt8) (w : World) (hE : Env w) (ht : TRow w tv t) (hg : greatT t = false) (h1 : ¬ 100 < x.1.size) (h2 : ¬ 100 < x.2.size) :
    Calls Tryd.prog 7 #[tv, .agg #[.string x.1, .string x.2], .int .u8 (c.toNat : Int)] w fun e w' => e = .returned (.bool true) ∧ Below w.heap.size w w' := by
  obtain ⟨p1, p2⟩ := greatT_not hg
  have p3 : ∀ y ∈ t, y.1.size ≤ 281474976710656 ∧ y.2.size ≤ 281474976710656 := fun y hy => by have := p2 y hy; omega
  clear p2
  obtain ⟨n, v⟩ := x
  dsimp only at *
  have hc := c.toNat_lt
  obtain ⟨cn, hcn⟩ : ∃ cn : Nat, c.toNat = cn := ⟨_, rfl⟩
  rw [hcn] at hc ⊢
  clear hcn
  obtain ⟨j, HJ⟩ : ∃ j : Nat, Hid (cn % (v.size + 1) = j) := ⟨_, rfl⟩
  have hj : j ≤ v.size := by have h5 := Nat.mod_lt cn (show 0 < v.size + 1 by omega); rw [HJ.out] at h5; omega
  go_enter Tryd.func7, Tryd.ntmps7
  go_wp2_with fail
  refine (alive_any _ (hE.alloc _)).mono ?_
  rintro e w1 ⟨rfl, n1⟩
  have c0 := newC (i := 0) n1
  have c1 := newC (i := 1) n1
  simp at c0 c1
  have d1 := belowA n1
  have hr1 := ht.on d1
  have z1 : w.heap.size < w1.heap.size := by have := n1.size; simp at this; omega
  clear n1 ht hE
  go_wp2_with fail
  refine (great_any _ t w1 hr1 p3).mono ?_
  rintro e w2 ⟨rfl, hw⟩
  have hw := hw.symm
  subst hw
  rw [hg]
  go_wp2_with fail
  have k1 : IntKind.i64.wrap (cn : Int) = (cn : Int) := by rw [IntKind.wrap_i64]; omega
  have k2 : IntKind.i64.wrap ((v.size : Int) + 1) = (v.size : Int) + 1 := by rw [IntKind.wrap_i64]; omega
  have k3 : Int.tmod (cn : Int) ((v.size : Int) + 1) = (j : Int) := by
    rw [Int.tmod_eq_emod_of_nonneg (by omega), ← HJ.out]
    simp
  have k4 : ¬ (v.size : Int) + 1 = 0 := by omega
  have k5 : ((v.size : Int) + 1 == 0) = false := by simp; omega
  have k6 : IntKind.i64.wrap (j : Int) = (j : Int) := by rw [IntKind.wrap_i64]; omega
  have k7 : (0 : Int) ≤ (j : Int) := by omega
  have k8 : (j : Int) ≤ (v.size : Int) := by omega
  go_quiet (fail)
  have c0 : (w1.drewN nq).cell? ⟨w.heap.size, 0, none⟩ = some (.string n) := c0
  have c1 : (w1.drewN nq).cell? ⟨w.heap.size, 1, none⟩ = some (.string v) := c1
  have z1 : w.heap.size < (w1.drewN nq).heap.size := z1
  have d1 := below_drewN d1 nq
  have hr1 : TRow (w1.drewN nq) tv t := hr1
  have eH := ext_head v j
  have HN := Lib.hid (pfit_not v (find t n).1 (find t n).2)
  have HB := Lib.hid (pfit_begins (x := v) (v := (find t n).1) (ok := (find t n).2) j)
  rw [← eH] at HB
  have HH := Lib.hid (pfit_has (x := v.extract 0 j) (y := ⟨#[]⟩) (v := (find t n).1) (ok := (find t n).2))
  generalize v.extract 0 j = hd at *
  generalize w1.drewN nq = W1 at *
  clear k1 k2 k3 k4 k5 k6 k7 k8 eH hj HJ hc
  go_wp2_with fail
  refine (fitsM_any tv _ t [(1, n, v)] _ (hr1.on (aBelow _ _)) (row_match W1 1 n v) (by simp) (by omega)).mono ?_
  rw [fits_one]
  rintro e W2 ⟨rfl, n2⟩
  have n2 := belowA n2
  have c0 := keepC n2 c0 z1
  have c1 := keepC n2 c1 z1
  have z1 := Nat.lt_of_lt_of_le z1 n2.size
  have hr1 := hr1.on n2
  have d2 := d1.trans (n2.mono d1.size)
  clear n2 d1
  go_wp2_with fail
  refine (fitsM_any tv _ t [(2, n, v)] _ (hr1.on (aBelow _ _)) (row_match W2 2 n v) (by simp) (by omega)).mono ?_
  rw [fits_one]
  rintro e W3 ⟨rfl, n3⟩
  have n3 := belowA n3
  have c0 := keepC n3 c0 z1
  have c1 := keepC n3 c1 z1
  have z1 := Nat.lt_of_lt_of_le z1 n3.size
  have hr1 := hr1.on n3
  have d3 := d2.trans (n3.mono d2.size)
  clear n3 d2
  go_wp2_with fail
  refine (fitsM_any tv _ t [(3, n, hd)] _ (hr1.on (aBelow _ _)) (row_match W3 3 n hd) (by simp) (by omega)).mono ?_
  rw [fits_one]
  rintro e W4 ⟨rfl, n4⟩
  have n4 := belowA n4
  have c0 := keepC n4 c0 z1
  have c1 := keepC n4 c1 z1
  have z1 := Nat.lt_of_lt_of_le z1 n4.size
  have hr1 := hr1.on n4
  have d4 := d3.trans (n4.mono d3.size)
  clear n4 d3
  go_wp2_with fail
  refine (fitsM_any tv _ t [(4, n, ⟨#[]⟩)] _ (hr1.on (aBelow _ _)) (row_match W4 4 n ⟨#[]⟩) (by simp) (by omega)).mono ?_
  rw [fits_one]
  rintro e W5 ⟨rfl, n5⟩
  have n5 := belowA n5
  have c0 := keepC n5 c0 z1
  have c1 := keepC n5 c1 z1
  have z1 := Nat.lt_of_lt_of_le z1 n5.size
  have hr1 := hr1.on n5
  have d5 := d4.trans (n5.mono d4.size)
  clear n5 d4
  rw [HN.out]
  generalize pfit 1 v (find t n).1 (find t n).2 = pa at *
  generalize pfit 3 hd (find t n).1 (find t n).2 = pb at *
  generalize pfit 4 ⟨#[]⟩ (find t n).1 (find t n).2 = pc at *
  clear HN c0 c1
  have hb := HB.out
  have hh := HH.out
  clear HB HH
  cases pa
  · cases pb
    · clear hb hh
      go_wp2_with fail
      go_ret
      exact ⟨rfl, d5⟩
    · have : pc = true := hh rfl
      subst this
      clear hb hh
      go_wp2_with fail
      go_ret
      exact ⟨rfl, d5⟩
  · have : pb = true := hb rfl
    subst this
    have : pc = true := hh rfl
    subst this
    clear hb hh
    go_wp2_with fail
    go_ret
    exact ⟨rfl, d5⟩

theorem other_walk (tv : Value) (t : List Tag) (x : Tag) (c : UInt8) (w : World) (hE : Env w) (ht : TRow w tv t) (hz : ∀ y ∈ t, y.1.size ≤ 281474976710656 ∧ y.2.size ≤ 281474976710656) (h1 : x.1.size ≤ 281474976710656) (h2 : x.2.size ≤ 281474976710656) :
    Calls Tryd.prog 7 #[tv, .agg #[.string x.1, .string x.2], .int .u8 (c.toNat : Int)] w fun e w' => e = .returned (.bool true) ∧ Below w.heap.size w w' := by
  cases hg : greatT t
  · by_cases h3 : 100 < x.1.size
    · exact other_skip tv t x c w hE ht hz h1 h2 (.inr (.inl ⟨hg, h3⟩))
    · by_cases h4 : 100 < x.2.size
      · exact other_skip tv t x c w hE ht hz h1 h2 (.inr (.inr ⟨hg, h3, h4⟩))
      · exact other_main tv t x c w hE ht hg h3 h4
  · exact other_skip tv t x c w hE ht hz h1 h2 (.inl hg)
end Go.Proofs.YtolmgfeljpalgaaDoor
