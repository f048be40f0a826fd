/- The fixed fact with which each law of shards begins. -/
import Derived.Test.YthiofbohllmfbaaSF
namespace Go.Proofs.Ythiofbohllmfbaa.Sh
open Go Go.RowKit Go.Sort Go.Lib Cl Ce Ch

def AS (b1 b3 b8 b9 bi oi : Nat) (v1 v3 v8 v9 : Value) (w w' : World) : Prop := w'.cell? ⟨b1, 0, none⟩ = some v1 ∧ w'.cell? ⟨b3, 0, none⟩ = some v3 ∧ w'.cell? ⟨b8, 0, none⟩ = some v8 ∧ w'.cell? ⟨b9, 0, none⟩ = some v9 ∧ w'.cell? ⟨bi, oi + 3, none⟩ = some (.int .i64 7) ∧ Below w.heap.size w w'
theorem AS.on {b1 b3 b8 b9 bi oi : Nat} {v1 v3 v8 v9 : Value} {w w1 w2 : World} (h : AS b1 b3 b8 b9 bi oi v1 v3 v8 v9 w w1) (n : Below w1.heap.size w1 w2) : AS b1 b3 b8 b9 bi oi v1 v3 v8 v9 w w2 := by
  obtain ⟨h0, h1, h2, h3, h4, h5⟩ := h
  exact ⟨keepC n h0 (World.block_lt_of_cell? _ _ h0), keepC n h1 (World.block_lt_of_cell? _ _ h1), keepC n h2 (World.block_lt_of_cell? _ _ h2), keepC n h3 (World.block_lt_of_cell? _ _ h3), keepC n h4 (World.block_lt_of_cell? _ _ h4), h5.trans (n.mono h5.size)⟩

set_option maxRecDepth 100000 in
set_option maxHeartbeats 8000000 in
theorem alive_any (O : Own11) (w : World) :
    Calls Try.prog 8 #[] w fun e w' => e = .returned (.bool true) ∧ Below w.heap.size w w' := by
  have P1 := Lib.hid (fun W => O.apply (.slice none 0 0) [] ⟨1, 0, cpu, 3⟩ W (SRow.nil W) okS_nil (okW_any ⟨by decide, by decide⟩ ⟨by decide, by decide⟩))
  rw [s1] at P1
  have P2 := Lib.hid (fun W u (h : SRow W u exS) => O.apply u exS ⟨2, 0, cpu, 4⟩ W h okS_S (okW_any ⟨by decide, by decide⟩ ⟨by decide, by decide⟩))
  rw [s2] at P2
  have P3 := Lib.hid (fun W u (h : SRow W u exT) => O.apply u exT ⟨2, 0, cpu, 0⟩ W h okS_T (okW_any ⟨by decide, by decide⟩ ⟨by decide, by decide⟩))
  rw [s3] at P3
  have P4 := Lib.hid (fun W u (h : SRow W u exT) => O.read u (.slice none 0 0) exT 2 [] W h (GRow.nil W) okS_T (by decide))
  rw [s4] at P4
  have P5 := Lib.hid (fun W u (h : SRow W u exT) => O.prune u (.slice none 0 0) exT 2 [] W h (GRow.nil W) okS_T (by decide))
  rw [s5] at P5
  have P6 := Lib.hid (fun W u ud (h : SRow W u exT) (hd : DRow W ud dr2) => O.prune u ud exT 2 dr2 W h hd okS_T (by decide))
  rw [s6] at P6
  unfold wriV at P1 P2 P3
  dsimp only at P1 P2 P3
  unfold cpu at P1 P2 P3
  go_enter Try.func8, Try.ntmps8
  go_wp2_with fail
  refine (P1.out _).mono ?_
  rintro e w1 ⟨⟨_, rfl, r1⟩, d1⟩
  have R1 := Lib.hid r1
  obtain ⟨a1, c1, rfl, -, -⟩ := r1.at
  have y1 : exS.length = 1 := rfl
  rw [y1] at R1
  rw [y1]
  clear P1 y1 r1
  go_wp2_with fail
  have nA := aBelow w1 (.cells #[.slice a1 1 c1] 24)
  have X1 : (w1.alloc (.cells #[.slice a1 1 c1] 24)).cell? ⟨w1.heap.size, 0, none⟩ = some (.slice a1 1 c1) := by simp
  have R1 := Lib.hid (R1.out.on nA)
  have d1 := d1.trans (nA.mono d1.size)
  generalize w1.alloc (.cells #[.slice a1 1 c1] 24) = wA at *
  generalize w1.heap.size = b1 at *
  refine (P2.out _ _ R1.out).mono ?_
  rintro e w2 ⟨⟨_, rfl, r2⟩, n2⟩
  have X1 := keepC n2 X1 (World.block_lt_of_cell? _ _ X1)
  have R1 := Lib.hid (R1.out.on n2)
  have R2 := Lib.hid r2
  have d2 := d1.trans (n2.mono d1.size)
  obtain ⟨a2, c2, rfl, -, -⟩ := r2.at
  have y1 : exT.length = 1 := rfl
  rw [y1] at R2
  rw [y1]
  clear P2 y1 r2 n2 d1 nA
  go_wp2_with fail
  have nA := aBelow w2 (.cells #[.slice a2 1 c2] 24)
  have X1 := keepC nA X1 (World.block_lt_of_cell? _ _ X1)
  have X3 : (w2.alloc (.cells #[.slice a2 1 c2] 24)).cell? ⟨w2.heap.size, 0, none⟩ = some (.slice a2 1 c2) := by simp
  have R1 := Lib.hid (R1.out.on nA)
  have R2 := Lib.hid (R2.out.on nA)
  have d2 := d2.trans (nA.mono d2.size)
  generalize w2.alloc (.cells #[.slice a2 1 c2] 24) = wB at *
  generalize w2.heap.size = b3 at *
  refine (P3.out _ _ R2.out).mono ?_
  rintro e w3 ⟨⟨_, rfl, r3⟩, n3⟩
  have X1 := keepC n3 X1 (World.block_lt_of_cell? _ _ X1)
  have X3 := keepC n3 X3 (World.block_lt_of_cell? _ _ X3)
  have R1 := Lib.hid (R1.out.on n3)
  have R2 := Lib.hid (R2.out.on n3)
  have d3 := d2.trans (n3.mono d2.size)
  obtain ⟨a3, c3', rfl, -, -⟩ := r3.at
  have y1 : ([] : List Ent).length = 0 := rfl
  rw [y1]
  clear P3 r3 n3 d2 nA y1
  have nA := aBelow w3 (.cells #[.slice a3 0 c3'] 24)
  have X1 := keepC nA X1 (World.block_lt_of_cell? _ _ X1)
  have X3 := keepC nA X3 (World.block_lt_of_cell? _ _ X3)
  go_wp2_with fail
  have R1 := Lib.hid (R1.out.on nA)
  have R2 := Lib.hid (R2.out.on nA)
  have d3 := d3.trans (nA.mono d3.size)
  refine (P4.out _ _ R2.out).mono ?_
  rintro e w4 ⟨⟨_, rfl, r4⟩, n4⟩
  have X1 := keepC n4 X1 (World.block_lt_of_cell? _ _ X1)
  have X3 := keepC n4 X3 (World.block_lt_of_cell? _ _ X3)
  have R1 := Lib.hid (R1.out.on n4)
  have R2 := Lib.hid (R2.out.on n4)
  have R4 := Lib.hid r4
  have d4 := d3.trans (n4.mono d3.size)
  obtain ⟨a4, c4, rfl, -, -⟩ := r4
  have y1 : it7.length = 1 := rfl
  rw [y1] at R4
  rw [y1]
  obtain ⟨bi, oi, ci, hvi, hci, _, _⟩ := R4.out.open (by decide)
  cases hvi
  have hix : ∀ W, Sem.run Try.prog (Instr.indexAt 36 (.slice (some ⟨bi, oi, none⟩) 1 c4) (.int .i64 0)) W = .ok (.pointer (some ⟨bi, oi, none⟩)) W := fun W => by
    have hu := Try.underlying36
    go_simp
  clear P4 y1 n4 d3 nA
  go_wp2_with fail
  refine (P5.out _ _ R2.out).mono ?_
  rintro e w5 ⟨⟨_, rfl, r5⟩, n5⟩
  have X1 := keepC n5 X1 (World.block_lt_of_cell? _ _ X1)
  have X3 := keepC n5 X3 (World.block_lt_of_cell? _ _ X3)
  have R1 := Lib.hid (R1.out.on n5)
  have R2 := Lib.hid (R2.out.on n5)
  have R4 := Lib.hid (R4.out.on n5)
  have R5 := Lib.hid r5
  have d5 := d4.trans (n5.mono d4.size)
  obtain ⟨a5, c5, rfl, -, -⟩ := r5.at
  have y1 : exP.length = 1 := rfl
  rw [y1] at R5
  rw [y1]
  clear P5 y1 n5 d4 r5
  have nA := aBelow w5 (.cells #[.slice a5 1 c5] 24)
  have X1 := keepC nA X1 (World.block_lt_of_cell? _ _ X1)
  have X3 := keepC nA X3 (World.block_lt_of_cell? _ _ X3)
  have X8 : (w5.alloc (.cells #[.slice a5 1 c5] 24)).cell? ⟨w5.heap.size, 0, none⟩ = some (.slice a5 1 c5) := by simp
  have R1 := Lib.hid (R1.out.on nA)
  have R2 := Lib.hid (R2.out.on nA)
  have R4 := Lib.hid (R4.out.on nA)
  have R5 := Lib.hid (R5.out.on nA)
  have d5 := d5.trans (nA.mono d5.size)
  go_wp2_with fail
  have nB := aBelow (w5.alloc (.cells #[.slice a5 1 c5] 24)) (.cells #[.int .i64 0, .int .i64 2] 39)
  have hdr := drow_new (w5.alloc (.cells #[.slice a5 1 c5] 24))
  have hz : (w5.alloc (.cells #[.slice a5 1 c5] 24)).heap.size = w5.heap.size + 1 := by simp
  rw [hz] at hdr
  have hr2 := R2.out.on nB
  refine (P6.out _ _ _ hr2 hdr).mono ?_
  rintro e w6 ⟨⟨_, rfl, r6⟩, n6⟩
  have n6 := nB.trans (n6.mono nB.size)
  have X1 := keepC n6 X1 (World.block_lt_of_cell? _ _ X1)
  have X3 := keepC n6 X3 (World.block_lt_of_cell? _ _ X3)
  have X8 := keepC n6 X8 (World.block_lt_of_cell? _ _ X8)
  have R1 := Lib.hid (R1.out.on n6)
  have R2 := Lib.hid (R2.out.on n6)
  have R4 := Lib.hid (R4.out.on n6)
  have R5 := Lib.hid (R5.out.on n6)
  have R6 := Lib.hid r6
  have d6 := d5.trans (n6.mono d5.size)
  obtain ⟨a6, c6, rfl, -, -⟩ := r6.at
  have y1 : ([] : List Ent).length = 0 := rfl
  rw [y1] at R6
  rw [y1]
  clear P6 y1 n6 d5 r6 nA nB hdr hz hr2
  have nA := aBelow w6 (.cells #[.slice a6 0 c6] 24)
  have X1 := keepC nA X1 (World.block_lt_of_cell? _ _ X1)
  have X3 := keepC nA X3 (World.block_lt_of_cell? _ _ X3)
  have X8 := keepC nA X8 (World.block_lt_of_cell? _ _ X8)
  have X9 : (w6.alloc (.cells #[.slice a6 0 c6] 24)).cell? ⟨w6.heap.size, 0, none⟩ = some (.slice a6 0 c6) := by simp
  have R1 := Lib.hid (R1.out.on nA)
  have R2 := Lib.hid (R2.out.on nA)
  have R4 := Lib.hid (R4.out.on nA)
  have R5 := Lib.hid (R5.out.on nA)
  have R6 := Lib.hid (R6.out.on nA)
  have d6 := d6.trans (nA.mono d6.size)
  clear nA
  generalize w5.heap.size = b8 at *
  obtain ⟨bi2, oi2, ci2, hvi, hci2, _, hLi⟩ := R4.out.open (by decide)
  cases hvi
  have XI := (im_at hLi 0 (by decide)).2.2.2.1
  have XJ : (w6.alloc (.cells #[.slice a6 0 c6] 24)).cell? ⟨bi, oi + 3, none⟩ = some (.int .i64 7) := by have h := XI; rw [Nat.zero_mul, Nat.add_zero] at h; exact h
  clear XI hLi
  go_wp2_with fail
  have hz7 : (w6.alloc (.cells #[.slice a6 0 c6] 24)).heap.size = w6.heap.size + 1 := by simp
  have hdr := drow_new (w6.alloc (.cells #[.slice a6 0 c6] 24))
  rw [hz7] at hdr
  clear hz7
  generalize w6.alloc (.cells #[.slice a6 0 c6] 24) = w7 at *
  generalize w6.heap.size = b9 at *
  have HQ1 := Lib.hid (fun W ud (h : Below w7.heap.size w7 W) (hd : DRow W ud dr2) => O.read _ ud exT 2 dr2 W (R2.out.on h) hd okS_T (by decide))
  have HQ2 := Lib.hid (fun W ud (h : Below w7.heap.size w7 W) (hd : DRow W ud dr2) => O.read _ ud exT 1 dr2 W (R2.out.on h) hd okS_T (by decide))
  have HQ3 := Lib.hid (fun W (h : Below w7.heap.size w7 W) => O.size _ exT W (R2.out.on h) okS_T)
  have HQ4 := Lib.hid (fun W (h : Below w7.heap.size w7 W) => O.size _ exP W (R5.out.on h) okS_P)
  have HQ5 := Lib.hid (fun W (h : Below w7.heap.size w7 W) => O.size _ [] W (R6.out.on h) okS_nil)
  have HQ6 := Lib.hid (fun W (h : Below w7.heap.size w7 W) => O.right _ exT W (R2.out.on h) okS_T)
  have HQ7 := Lib.hid (fun W (h : Below w7.heap.size w7 W) => O.same _ _ exT exT W (R2.out.on h) (R2.out.on h) okS_T okS_T)
  have HQ8 := Lib.hid (fun W (h : Below w7.heap.size w7 W) => O.same _ _ exS exT W (R1.out.on h) (R2.out.on h) okS_S okS_T)
  rw [s7] at HQ1
  rw [s8] at HQ2
  rw [s9] at HQ3
  rw [sa] at HQ4
  rw [sb] at HQ5
  rw [sc] at HQ6
  rw [sd] at HQ7
  rw [se] at HQ8
  clear R1 R2 R4 R5 R6
  obtain ⟨X1, X3, X8, X9, XJ, X6⟩ := show AS b1 b3 b8 b9 bi oi (.slice a1 1 c1) (.slice a2 1 c2) (.slice a5 1 c5) (.slice a6 0 c6) w7 w7 from ⟨X1, X3, X8, X9, XJ, Below.refl _ _⟩
  have A0 : Hid (AS b1 b3 b8 b9 bi oi (.slice a1 1 c1) (.slice a2 1 c2) (.slice a5 1 c5) (.slice a6 0 c6) w7 (w7.alloc (.cells #[.int .i64 0, .int .i64 2] 39))) := AS.on ⟨X1, X3, X8, X9, XJ, X6⟩ (aBelow w7 _)
  refine (HQ1.out _ _ A0.out.2.2.2.2.2 hdr).mono ?_
  rintro e wa ⟨⟨va, rfl, ra⟩, na⟩
  obtain ⟨aa, ca, rfl, -, -⟩ := ra
  have A1 := Lib.hid (AS.on A0.out na)
  have A1a := Lib.hid (AS.on A1.out (aBelow wa (.cells #[.int .i64 0, .int .i64 2] 39)))
  obtain ⟨X1, X3, X8, X9, XJ, X6⟩ := A1.out
  clear na
  have y0 : ([] : List Itm).length = 0 := rfl
  rw [y0]
  go_wp2_with fail
  refine (HQ2.out _ _ A1a.out.2.2.2.2.2 (drow_new wa)).mono ?_
  rintro e wb ⟨⟨vb, rfl, rb⟩, nb⟩
  obtain ⟨ab, cb, rfl, -, -⟩ := rb
  have A2 := Lib.hid (AS.on A1a.out nb)
  obtain ⟨X1, X3, X8, X9, XJ, X6⟩ := A2.out
  clear nb
  have y1 : it3.length = 1 := rfl
  rw [y1]
  go_wp2_with fail
  refine (HQ3.out _ A2.out.2.2.2.2.2).mono ?_
  rintro e wc ⟨rfl, nwc⟩
  have A3 := Lib.hid (AS.on A2.out nwc)
  obtain ⟨X1, X3, X8, X9, XJ, X6⟩ := A3.out
  clear nwc
  go_wp2_with fail
  refine (HQ4.out _ A3.out.2.2.2.2.2).mono ?_
  rintro e wd ⟨rfl, nwd⟩
  have A4 := Lib.hid (AS.on A3.out nwd)
  obtain ⟨X1, X3, X8, X9, XJ, X6⟩ := A4.out
  clear nwd
  go_wp2_with fail
  refine (HQ5.out _ A4.out.2.2.2.2.2).mono ?_
  rintro e we ⟨rfl, nwe⟩
  have A5 := Lib.hid (AS.on A4.out nwe)
  obtain ⟨X1, X3, X8, X9, XJ, X6⟩ := A5.out
  clear nwe
  go_wp2_with fail
  refine (HQ6.out _ A5.out.2.2.2.2.2).mono ?_
  rintro e wf ⟨rfl, nwf⟩
  have A6 := Lib.hid (AS.on A5.out nwf)
  obtain ⟨X1, X3, X8, X9, XJ, X6⟩ := A6.out
  clear nwf
  go_wp2_with fail
  refine (HQ7.out _ A6.out.2.2.2.2.2).mono ?_
  rintro e wg ⟨rfl, nwg⟩
  have A7 := Lib.hid (AS.on A6.out nwg)
  obtain ⟨X1, X3, X8, X9, XJ, X6⟩ := A7.out
  clear nwg
  go_wp2_with fail
  refine (HQ8.out _ A7.out.2.2.2.2.2).mono ?_
  rintro e wh ⟨rfl, nwh⟩
  have A8 := Lib.hid (AS.on A7.out nwh)
  obtain ⟨X1, X3, X8, X9, XJ, X6⟩ := A8.out
  clear nwh
  go_wp2_with fail
  have dF := Lib.hid (d6.trans (A8.out.2.2.2.2.2.mono d6.size))
  go_ret
  exact ⟨rfl, dF.out⟩
end Go.Proofs.Ythiofbohllmfbaa.Sh
