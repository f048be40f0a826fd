/- Walks: the law SatBack. -/
import Derived.Test.YtmmpcaboedjjdaaDoorM4
import Derived.Test.YtmmpcaboedjjdaaDoorW6
namespace Go.Proofs.YtmmpcaboedjjdaaDoor
open Go Go.RowKit

theorem ba_of (t : ByteArray) (l : List UInt8) (h : l = t.data.toList) : (⟨l.toArray⟩ : ByteArray) = t := by
  apply ByteArray.ext
  rw [h]

set_option maxHeartbeats 1000000 in
theorem back_walk (B : Nat) (a : Int) (ao : Bool) (t : ByteArray) (w : World) (hE : Env B w) (ha0 : -9223372036854775808 ≤ a) (ha1 : a ≤ 9223372036854775807) (ht : t.size ≤ 281474976710656) :
    Calls Tryd.prog 7 #[.agg #[.int .i64 a, .bool ao], .string t] w fun e w' => e = .returned (.bool true) ∧ Below w.heap.size w w' := by
  go_enter Tryd.func7, Tryd.ntmps7
  go_wp2_with fail
  refine (alive_any B _ (hE.alloc _)).mono ?_
  rintro e w1 ⟨rfl, n1⟩
  have a0 := newC (i := 0) n1
  have a1 := newC (i := 1) n1
  have d1 := belowAlloc n1
  have z0 : w.heap.size < w1.heap.size := by have := n1.size; simp at this; omega
  clear n1
  simp at a0 a1
  by_cases hl : 200 < t.size
  · go_wp2_with fail
    go_ret
    exact ⟨rfl, d1⟩
  · go_wp2_with fail
    refine (text_any B a ao _ (hE.go d1) ha0 ha1).mono ?_
    rintro e w2 ⟨rfl, n2⟩
    have b0 := keepC n2 a0 z0
    have b1 := keepC n2 a1 z0
    have d2 := d1.trans (n2.mono d1.size)
    have z2 : w.heap.size < w2.heap.size := Nat.lt_of_lt_of_le z0 n2.size
    clear a0 a1 n2 d1 z0
    have hln := textL_len a ao ha0 ha1
    have HP := Lib.hid (parse_text a ao ha0 ha1)
    go_wp2_with fail
    refine (parse_any B ⟨(textL a ao).toArray⟩ _ (hE.go d2) (by rw [size_list]; simp; omega)).mono ?_
    rw [show (⟨(textL a ao).toArray⟩ : ByteArray).data.toList = textL a ao from by simp, HP.out]
    rintro e w3 ⟨rfl, n3⟩
    have a0 := keepC n3 b0 z2
    have a1 := keepC n3 b1 z2
    have d3 := d2.trans (n3.mono d2.size)
    have z3 : w.heap.size < w3.heap.size := Nat.lt_of_lt_of_le z2 n3.size
    clear b0 b1 n3 d2 z2 HP hln
    go_wp2_with fail
    refine (parse_any B t _ ((hE.go d3).alloc _) ht).mono ?_
    rintro e w4 ⟨rfl, n4⟩
    have x0 := newC (i := 0) n4
    have x1 := newC (i := 1) n4
    have n4' := belowAlloc n4
    have b0 := keepC n4' a0 z3
    have b1 := keepC n4' a1 z3
    have d4 := d3.trans (n4'.mono d3.size)
    have z4 : w3.heap.size < w4.heap.size := by have := n4.size; simp at this; omega
    have z5 : w.heap.size < w4.heap.size := by omega
    clear a0 a1 n4 n4' d3
    simp at x0 x1
    have HB := Lib.hid (parse_bad t.data.toList)
    have HT := Lib.hid (text_parse t.data.toList)
    have HW := Lib.hid (parse_bounds t.data.toList)
    generalize hR : parseL t.data.toList = R at *
    obtain ⟨rn, ro, re⟩ := R
    clear hR
    by_cases h0 : re = 0
    · subst h0
      clear HB
      go_wp2_with fail
      refine (text_any B rn ro _ ((hE.go d4).alloc _) HW.out.1 HW.out.2).mono ?_
      rw [ba_of t _ (HT.out trivial)]
      rintro e w5 ⟨rfl, n5⟩
      have d5 := d4.trans ((belowAlloc n5).mono d4.size)
      clear n5 d4 b0 b1 x0 x1 HT HW
      go_wp2_with fail
      go_ret
      exact ⟨rfl, d5⟩
    · have hne : (re != 0) = true := by simpa using h0
      have hq := HB.out h0
      obtain ⟨rfl, rfl⟩ : rn = 0 ∧ ro = false := by simpa using hq
      clear HB HT HW h0 hq
      go_wp2_with fail
      go_ret
      exact ⟨rfl, d4.alloc (by omega) _⟩
end Go.Proofs.YtmmpcaboedjjdaaDoor
