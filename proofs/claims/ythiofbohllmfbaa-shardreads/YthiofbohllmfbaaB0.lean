/- Carried over from earlier layers: walks and lemmas. -/
import Derived.Test.YthiofbohllmfbaaMS
import Derived.Test.YthiofbohllmfbaaH0
import Derived.WalkKit
import Derived.WalkSpells
import Derived.WalkLawsBesides
import Derived.Outline
import Derived.Lib.ItoaLen
namespace Go.Proofs.Ythiofbohllmfbaa.St
open Go Go.RowKit
open Sat
open Go Go.RowKit
open Sat
open Go Go.RowKit
open Sat
open Sat
set_option maxRecDepth 100000 in
set_option maxHeartbeats 400000 in
theorem above_any (a b : Int) (w : World) (ha0 : -9223372036854775808 ≤ a) (ha1 : a ≤ 9223372036854775807) :
    Calls Try.prog 77 #[.int .i64 a, .int .i64 b] w fun e w' => e = .returned (.bool (Sat.aboveB a b)) ∧ w' = w := by
  by_cases h : 0 < a
  · by_cases h2 : 9223372036854775807 - a < b
    · have hv : Sat.aboveB a b = true := decide_eq_true ⟨h, h2⟩
      rw [hv]
      go_enter Try.func77, Try.ntmps77
      go_wp2
      go_ret
      exact ⟨rfl, rfl⟩
    · have hv : Sat.aboveB a b = false := decide_eq_false (by omega)
      rw [hv]
      go_enter Try.func77, Try.ntmps77
      go_wp2
      go_ret
      exact ⟨rfl, rfl⟩
  · have hv : Sat.aboveB a b = false := decide_eq_false (by omega)
    rw [hv]
    go_enter Try.func77, Try.ntmps77
    go_wp2
    go_ret
    exact ⟨rfl, rfl⟩
set_option maxRecDepth 100000 in
set_option maxHeartbeats 400000 in
theorem below_any (a b : Int) (w : World) (ha0 : -9223372036854775808 ≤ a) (ha1 : a ≤ 9223372036854775807) :
    Calls Try.prog 78 #[.int .i64 a, .int .i64 b] w fun e w' => e = .returned (.bool (Sat.belowB a b)) ∧ w' = w := by
  by_cases h : a < 0
  · by_cases h2 : b < -9223372036854775808 - a
    · have hv : Sat.belowB a b = true := decide_eq_true ⟨h, h2⟩
      rw [hv]
      go_enter Try.func78, Try.ntmps78
      go_wp2
      go_ret
      exact ⟨rfl, rfl⟩
    · have hv : Sat.belowB a b = false := decide_eq_false (by omega)
      rw [hv]
      go_enter Try.func78, Try.ntmps78
      go_wp2
      go_ret
      exact ⟨rfl, rfl⟩
  · have hv : Sat.belowB a b = false := decide_eq_false (by omega)
    rw [hv]
    go_enter Try.func78, Try.ntmps78
    go_wp2
    go_ret
    exact ⟨rfl, rfl⟩
set_option maxRecDepth 100000 in
set_option maxHeartbeats 400000 in
theorem of_any (n : Int) (w : World) :
    Calls Try.prog 75 #[.int .i64 n] w fun e w' => e = .returned (.agg #[.int .i64 n, .bool false]) ∧ Below w.heap.size w w' := by
  go_enter Try.func75, Try.ntmps75
  go_wp2
  exact bodyPost_ret (v := .agg #[.int .i64 n, .bool false]) (by simp [results, Try.results75, go_sem]) rfl ⟨rfl, (Below.refl _ _).alloc (Nat.le_refl _) _⟩
theorem below3 {w : World} (o1 o2 o3 : Obj) : Below w.heap.size w (((w.alloc o1).alloc o2).alloc o3) :=
  (((Below.refl _ _).alloc (Nat.le_refl _) _).alloc (by simp) _).alloc (by simp; omega) _
theorem bcell {W w1 : World} (hb : Below W.heap.size W w1) : (∀ b o, b < W.heap.size → w1.cell? ⟨b, o, none⟩ = W.cell? ⟨b, o, none⟩) ∧ (∀ b o, b < W.heap.size → w1.frozen? ⟨b, o, none⟩ = W.frozen? ⟨b, o, none⟩) :=
  ⟨fun b o h => hb.cell (p := ⟨b, o, none⟩) h, fun b o h => hb.frozen (p := ⟨b, o, none⟩) h⟩
set_option maxRecDepth 100000 in
set_option maxHeartbeats 800000 in
theorem add_any (a : Int) (ao : Bool) (b : Int) (bo : Bool) (w : World) (ha0 : -9223372036854775808 ≤ a) (ha1 : a ≤ 9223372036854775807) (hb0 : -9223372036854775808 ≤ b) (hb1 : b ≤ 9223372036854775807) :
    Calls Try.prog 74 #[.agg #[.int .i64 a, .bool ao], .agg #[.int .i64 b, .bool bo]] w fun e w' => e = .returned (.agg #[.int .i64 (Sat.add a ao b bo).1, .bool (Sat.add a ao b bo).2]) ∧ Below w.heap.size w w' := by
  cases ao
  · cases bo
    · by_cases h : 0 < a ∧ 9223372036854775807 - a < b
      · rw [Sat.add_above _ _ h]
        have hv : Sat.aboveB a b = true := decide_eq_true h
        clear h
        go_enter Try.func74, Try.ntmps74
        go_wp2_with (first | (go_at_call 77; refine (above_any _ _ _ (by omega) (by omega)).mono ?_; rintro e w' ⟨rfl, rfl⟩))
        exact bodyPost_ret (v := .agg #[.int .i64 9223372036854775807, .bool true]) (by simp [results, Try.results74, go_sem]) rfl ⟨rfl, below3 _ _ _⟩
      · have hv : Sat.aboveB a b = false := decide_eq_false h
        by_cases h' : a < 0 ∧ b < -9223372036854775808 - a
        · rw [Sat.add_below _ _ h']
          have hv' : Sat.belowB a b = true := decide_eq_true h'
          clear h h'
          go_enter Try.func74, Try.ntmps74
          go_wp2_with (first | (go_at_call 77; refine (above_any _ _ _ (by omega) (by omega)).mono ?_; rintro e w' ⟨rfl, rfl⟩) | (go_at_call 78; refine (below_any _ _ _ (by omega) (by omega)).mono ?_; rintro e w' ⟨rfl, rfl⟩))
          exact bodyPost_ret (v := .agg #[.int .i64 (-9223372036854775808), .bool true]) (by simp [results, Try.results74, go_sem]) rfl ⟨rfl, below3 _ _ _⟩
        · rw [Sat.add_plain _ _ h h']
          have hv' : Sat.belowB a b = false := decide_eq_false h'
          have k0 : -9223372036854775808 ≤ a + b := by omega
          have k1 : a + b ≤ 9223372036854775807 := by omega
          clear h h'
          go_enter Try.func74, Try.ntmps74
          go_wp2_with (first | (go_at_call 77; refine (above_any _ _ _ (by omega) (by omega)).mono ?_; rintro e w' ⟨rfl, rfl⟩) | (go_at_call 78; refine (below_any _ _ _ (by omega) (by omega)).mono ?_; rintro e w' ⟨rfl, rfl⟩))
          refine (of_any _ _).mono ?_
          rintro e w1 ⟨rfl, hb⟩
          obtain ⟨hc, hf⟩ := bcell hb
          have hz : w.heap.size + 2 < w1.heap.size := by have := hb.size; simp at this; omega
          go_wp2
          exact bodyPost_ret (v := .agg #[.int .i64 (a + b), .bool false]) (by simp [results, Try.results74, go_sem, hc]) rfl ⟨rfl, (((below3 _ _ _).trans (hb.mono (by simp; omega))).setCell (by simp; omega) _).setCell (by simp; omega) _⟩
    · rw [Sat.add_b]
      go_enter Try.func74, Try.ntmps74
      go_wp2
      exact bodyPost_ret (v := .agg #[.int .i64 b, .bool true]) (by simp [results, Try.results74, go_sem]) rfl ⟨rfl, below3 _ _ _⟩
  · rw [Sat.add_a]
    go_enter Try.func74, Try.ntmps74
    go_wp2
    exact bodyPost_ret (v := .agg #[.int .i64 a, .bool true]) (by simp [results, Try.results74, go_sem]) rfl ⟨rfl, below3 _ _ _⟩
set_option maxRecDepth 100000 in
set_option maxHeartbeats 800000 in
theorem refAdd_any (a : Int) (ao : Bool) (b : Int) (bo : Bool) (w : World) (ha0 : -9223372036854775808 ≤ a) (ha1 : a ≤ 9223372036854775807) (hb0 : -9223372036854775808 ≤ b) (hb1 : b ≤ 9223372036854775807) :
    Calls Try.prog 45 #[.agg #[.int .i64 a, .bool ao], .agg #[.int .i64 b, .bool bo]] w fun e w' => e = .returned (.agg #[.int .i64 (Sat.add a ao b bo).1, .bool (Sat.add a ao b bo).2]) ∧ Below w.heap.size w w' := by
  cases ao
  · cases bo
    · by_cases h : 0 < a
      · by_cases h2 : 9223372036854775807 - a < b
        · rw [Sat.add_above _ _ ⟨h, h2⟩]
          go_enter Try.func45, Try.ntmps45
          go_wp2
          exact bodyPost_ret (v := .agg #[.int .i64 9223372036854775807, .bool true]) (by simp [results, Try.results45, go_sem]) rfl ⟨rfl, below3 _ _ _⟩
        · rw [Sat.add_plain _ _ (by omega) (by omega)]
          have k0 : -9223372036854775808 ≤ a + b := by omega
          have k1 : a + b ≤ 9223372036854775807 := by omega
          go_enter Try.func45, Try.ntmps45
          go_wp2
          exact bodyPost_ret (v := .agg #[.int .i64 (a + b), .bool false]) (by simp [results, Try.results45, go_sem]) rfl ⟨rfl, below3 _ _ _⟩
      · by_cases h1 : a < 0
        · by_cases h2 : b < -9223372036854775808 - a
          · rw [Sat.add_below _ _ ⟨h1, h2⟩]
            go_enter Try.func45, Try.ntmps45
            go_wp2
            exact bodyPost_ret (v := .agg #[.int .i64 (-9223372036854775808), .bool true]) (by simp [results, Try.results45, go_sem]) rfl ⟨rfl, below3 _ _ _⟩
          · rw [Sat.add_plain _ _ (by omega) (by omega)]
            have k0 : -9223372036854775808 ≤ a + b := by omega
            have k1 : a + b ≤ 9223372036854775807 := by omega
            go_enter Try.func45, Try.ntmps45
            go_wp2
            exact bodyPost_ret (v := .agg #[.int .i64 (a + b), .bool false]) (by simp [results, Try.results45, go_sem]) rfl ⟨rfl, below3 _ _ _⟩
        · rw [Sat.add_plain _ _ (by omega) (by omega)]
          have k0 : -9223372036854775808 ≤ a + b := by omega
          have k1 : a + b ≤ 9223372036854775807 := by omega
          go_enter Try.func45, Try.ntmps45
          go_wp2
          exact bodyPost_ret (v := .agg #[.int .i64 (a + b), .bool false]) (by simp [results, Try.results45, go_sem]) rfl ⟨rfl, below3 _ _ _⟩
    · rw [Sat.add_b]
      go_enter Try.func45, Try.ntmps45
      go_wp2
      exact bodyPost_ret (v := .agg #[.int .i64 b, .bool true]) (by simp [results, Try.results45, go_sem]) rfl ⟨rfl, below3 _ _ _⟩
  · rw [Sat.add_a]
    go_enter Try.func45, Try.ntmps45
    go_wp2
    exact bodyPost_ret (v := .agg #[.int .i64 a, .bool true]) (by simp [results, Try.results45, go_sem]) rfl ⟨rfl, below3 _ _ _⟩
end Go.Proofs.Ythiofbohllmfbaa.St
