/- The fixed fact: a walk over Own12. -/
import Derived.Test.YtpbmehigklikdaaP13
namespace Go.Proofs.Ytpbmehigklikdaa.Sp
open Go Go.RowKit

def tA : ByteArray := ⟨#[97]⟩
def tB : ByteArray := ⟨#[98]⟩
def exL : List ByteArray := [tA, tB, tA]
theorem x1 : hashS tA = 3826002220 := by kernel_rfl
theorem x2 : hashS ⟨#[]⟩ = 2166136261 := by kernel_rfl
theorem x3 : shardOf tA 2 = 0 := by kernel_rfl
theorem x4 : shardOf tA 9 = 0 := by kernel_rfl
theorem x5 : partsOf 2 exL = [[tA, tA], [tB]] := by kernel_rfl
/-- Two lists, as they lie. -/
theorem prow_two {w : World} {v : Value} {L0 L1 : List ByteArray} (h : PRow w v [L0, L1]) : ∃ b o c a0 c0 a1 c1, v = .slice (some ⟨b, o, none⟩) 2 c ∧ w.cell? ⟨b, o, none⟩ = some (.slice a0 L0.length c0) ∧ w.cell? ⟨b, o + 1, none⟩ = some (.slice a1 L1.length c1) := by
  obtain ⟨rs, hg, hm, h3⟩ := h
  match rs, hm with
  | [r0, r1], hm =>
    simp at hm
    obtain ⟨m0, m1⟩ := hm
    obtain ⟨b, o, c, hv, -, -, hL⟩ := hg.open (by simp)
    obtain ⟨a0, c0, e0, -, -⟩ := h3 r0 (by simp)
    obtain ⟨a1, c1, e1, -, -⟩ := h3 r1 (by simp)
    have q0 := hL 0 (by simp) 0 _ rfl
    have q1 := hL 1 (by simp) 0 _ rfl
    refine ⟨b, o, c, a0, c0, a1, c1, hv, ?_, ?_⟩
    · rw [← m0, ← e0]; exact q0
    · rw [← m1, ← e1]; exact q1
theorem trow_new (w : World) : TRow (w.alloc (.cells #[.string tA, .string tB, .string tA] 9)) (.slice (some ⟨w.heap.size, 0, none⟩) 3 3) exL := by
  refine ⟨_, 3, rfl, Nat.le_refl _, fun _ => ⟨w.heap.size, 0, rfl, by simp, lies_of_flat txtC_len (fun j u hu => ?_)⟩⟩
  rw [Nat.zero_add, cell_of_row _ w.heap.size j #[.string tA, .string tB, .string tA] 9 (0, 0) (heap_alloc_new _ _)]
  have e : flatG txtC exL = [.string tA, .string tB, .string tA] := rfl
  rw [e] at hu
  simpa using hu

set_option maxRecDepth 100000 in
set_option maxHeartbeats 4000000 in
theorem alive_any (O : Own12) (w : World) : Calls Try.prog 7 #[] w fun e w' => e = .returned (.bool true) ∧ Below w.heap.size w w' := by
  have dA := Lib.hid (aBelow w (.cells #[.string tA, .string tB, .string tA] 9))
  have HP := Lib.hid (O.parts _ _ 2 _ (trow_new w) (by decide) (fun s hs => by simp [exL] at hs; rcases hs with rfl | rfl | rfl <;> decide) (by decide) (by decide))
  rw [x5] at HP
  have H1 := Lib.hid (fun W => O.hash tA W (by decide))
  have H2 := Lib.hid (fun W => O.hash ⟨#[]⟩ W (by decide))
  have H3 := Lib.hid (fun W => O.of tA 2 W (by decide) (by decide) (by decide))
  have H4 := Lib.hid (fun W => O.of tA 9 W (by decide) (by decide) (by decide))
  rw [x1] at H1
  rw [x2] at H2
  rw [x3] at H3
  rw [x4] at H4
  unfold tA tB at *
  go_enter Try.func7, Try.ntmps7
  go_wp2_with fail
  refine HP.out.mono ?_
  rintro e w1 ⟨⟨v1, rfl, hp⟩, n1⟩
  obtain ⟨b, o, c, a0, c0, a1, c1, rfl, q0, q1⟩ := prow_two hp
  have b0 := World.block_lt_of_cell? _ _ q0
  have b1 := World.block_lt_of_cell? _ _ q1
  have D1 := Lib.hid (dA.out.trans (n1.mono dA.out.size))
  clear hp n1 HP
  go_wp2_with fail
  refine (H1.out _).mono ?_
  rintro e w2 ⟨rfl, n2⟩
  have q0 := keepC n2 q0 b0
  have q1 := keepC n2 q1 b1
  have b2 := World.block_lt_of_cell? _ _ q0
  have D2 := Lib.hid (D1.out.trans (n2.mono D1.out.size))
  clear n2 H1 D1 b0 b1
  go_wp2_with fail
  refine (H2.out _).mono ?_
  rintro e w3 ⟨rfl, n3⟩
  have q0 := keepC n3 q0 b2
  have q1 := keepC n3 q1 b2
  have b3 := World.block_lt_of_cell? _ _ q0
  have D3 := Lib.hid (D2.out.trans (n3.mono D2.out.size))
  clear n3 H2 D2 b2
  go_wp2_with fail
  refine (H3.out _).mono ?_
  rintro e w4 ⟨rfl, n4⟩
  have q0 := keepC n4 q0 b3
  have q1 := keepC n4 q1 b3
  have b4 := World.block_lt_of_cell? _ _ q0
  have D4 := Lib.hid (D3.out.trans (n4.mono D3.out.size))
  clear n4 H3 D3 b3
  go_wp2_with fail
  refine (H4.out _).mono ?_
  rintro e w5 ⟨rfl, n5⟩
  have q0 := keepC n5 q0 b4
  have q1 := keepC n5 q1 b4
  have D5 := Lib.hid (D4.out.trans (n5.mono D4.out.size))
  clear n5 H4 D4 b4
  go_wp2_with fail
  go_ret
  exact ⟨rfl, D5.out⟩
end Go.Proofs.Ytpbmehigklikdaa.Sp
