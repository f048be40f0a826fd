/- Walks: the fixed fact with which each law begins. -/
import Derived.Test.YtnpnikgbjdeboaaC7
namespace Go.Proofs.Ytnpnikgbjdeboaa
open Go Go.RowKit Cl

theorem f_of2 : ofL [3, -1] = ⟨2, 2, false, -1, 3⟩ := by kernel_rfl
theorem f_of0 : ofL [] = zero := rfl
theorem f_of1 : ofL [9] = ⟨1, 9, false, 9, 9⟩ := by kernel_rfl
theorem f_merge : mergeL [⟨2, 2, false, -1, 3⟩, zero, ⟨1, 9, false, 9, 9⟩] = ⟨3, 11, false, -1, 9⟩ := by kernel_rfl
theorem f_fold : fold ⟨2, 2, false, -1, 3⟩ 5 = ⟨3, 7, false, -1, 5⟩ := by kernel_rfl

theorem iat2 (w : World) (n : Nat) (x y : Int) (t : TypeId) (hn : n = w.heap.size) : IAt (w.alloc (.cells #[.int .i64 x, .int .i64 y] t)) (some ⟨n, 0, none⟩) [x, y] := by
  subst hn
  intro _
  refine ⟨_, _, rfl, by simp, fun i hi => ?_⟩
  match i, hi with
  | 0, _ => simp
  | 1, _ => simp
theorem iat1 (w : World) (n : Nat) (x : Int) (t : TypeId) (hn : n = w.heap.size) : IAt (w.alloc (.cells #[.int .i64 x] t)) (some ⟨n, 0, none⟩) [x] := by
  subst hn
  intro _
  refine ⟨_, _, rfl, by simp, fun i hi => ?_⟩
  match i, hi with
  | 0, _ => simp

/-- The operations of the fixed fact's second statement. -/
def opsA : Array Oper := #[{ dst := some 5, op := Op.load 25 (Operand.tmp 1), type := 25, pos := "law.go:13", after := #[], guard := none }, { dst := some 6, op := Op.call { callee := Callee.value (Operand.func 13), args := #[Operand.const (Value.slice none 0 0)], argTypes := #[31] }, type := 25, pos := "law.go:13", after := #[], guard := none }, { dst := some 7, op := Op.buildSlice 31 1 #[(0, Operand.const (Value.int IntKind.i64 9))], type := 31, pos := "law.go:13", after := #[], guard := none }, { dst := some 8, op := Op.call { callee := Callee.value (Operand.func 13), args := #[Operand.tmp 7], argTypes := #[31] }, type := 25, pos := "law.go:13", after := #[{ on := 2, ground := Ground.data }, { on := 1, ground := Ground.chain }], guard := none }, { dst := some 9, op := Op.buildSlice 35 3 #[(0, Operand.tmp 5), (1, Operand.tmp 6), (2, Operand.tmp 8)], type := 35, pos := "law.go:13", after := #[{ on := 0, ground := Ground.data }, { on := 1, ground := Ground.data }, { on := 3, ground := Ground.data }], guard := none }, { dst := some 10, op := Op.call { callee := Callee.value (Operand.func 15), args := #[Operand.tmp 9], argTypes := #[35] }, type := 25, pos := "law.go:13", after := #[{ on := 4, ground := Ground.data }, { on := 3, ground := Ground.chain }], guard := none }, { dst := some 2, op := Op.alloc 25, type := 0, pos := "law.go:13", after := #[], guard := none }, { dst := none, op := Op.store 25 (Operand.tmp 2) (Operand.tmp 10), type := 0, pos := "law.go:13", after := #[{ on := 6, ground := Ground.data }, { on := 5, ground := Ground.data }, { on := 5, ground := Ground.chain }, { on := 0, ground := Ground.phase }, { on := 1, ground := Ground.phase }, { on := 2, ground := Ground.phase }, { on := 3, ground := Ground.phase }, { on := 4, ground := Ground.phase }, { on := 5, ground := Ground.phase }, { on := 6, ground := Ground.phase }], guard := none }]
theorem ok2 : okC ⟨2, 2, false, -1, 3⟩ := ⟨⟨by decide, by decide⟩, ⟨by decide, by decide⟩, ⟨by decide, by decide⟩, ⟨by decide, by decide⟩⟩
theorem f_val4 : val ⟨3, 11, false, -1, 9⟩ 4 = (9, false) := by kernel_rfl
theorem f_val9 : val ⟨3, 11, false, -1, 9⟩ 9 = (0, false) := by kernel_rfl
theorem field_C (n s : Int) (o : Bool) (m x : Int) : ∀ w : World, Sem.run Try.prog (Instr.field 25 (.agg #[.int .i64 n, .int .i64 s, .bool o, .int .i64 m, .int .i64 x]) 0) w = .ok (.int .i64 n) w := fun _ => by kernel_rfl
theorem ok3 : ∀ x ∈ [(⟨2, 2, false, -1, 3⟩ : Cell), zero, ⟨1, 9, false, 9, 9⟩], okC x := by
  intro x hx
  simp at hx
  rcases hx with rfl | rfl | rfl
  · exact ⟨⟨by decide, by decide⟩, ⟨by decide, by decide⟩, ⟨by decide, by decide⟩, ⟨by decide, by decide⟩⟩
  · exact ok_zero
  · exact ⟨⟨by decide, by decide⟩, ⟨by decide, by decide⟩, ⟨by decide, by decide⟩, ⟨by decide, by decide⟩⟩
theorem cat3 (w : World) (n : Nat) (x y z : Cell) (hn : n = w.heap.size) : CAt (w.alloc (.cells #[.int .i64 x.cnt, .int .i64 x.sn, .bool x.so, .int .i64 x.mn, .int .i64 x.mx, .int .i64 y.cnt, .int .i64 y.sn, .bool y.so, .int .i64 y.mn, .int .i64 y.mx, .int .i64 z.cnt, .int .i64 z.sn, .bool z.so, .int .i64 z.mn, .int .i64 z.mx] 25)) (some ⟨n, 0, none⟩) [x, y, z] := by
  subst hn
  intro _
  refine ⟨_, _, rfl, by simp, fun i hi => ?_⟩
  match i, hi with
  | 0, _ => simp
  | 1, _ => simp
  | 2, _ => simp
/-- A box that was made behind an elder one and may be written. -/
def Spot (w : World) (db cb B : Nat) : Prop := Box w db zero ∧ Free w db ∧ cb < db ∧ B ≤ db
theorem Spot.on {W w : World} {db cb B : Nat} (h : Spot W db cb B) (n : Below W.heap.size W w) : Spot w db cb B := ⟨h.1.on n, h.2.1.on h.1.lt n, h.2.2⟩
theorem Spot.new {cb B : Nat} (w : World) (h : cb < w.heap.size) (hB : B ≤ w.heap.size) : Spot (w.alloc (.cells #[.int .i64 zero.cnt, .int .i64 zero.sn, .bool zero.so, .int .i64 zero.mn, .int .i64 zero.mx] 25)) w.heap.size cb B := ⟨Box.new w _ zero rfl, Free.new w _ zero rfl, h, hB⟩
theorem Box.far {W : World} {b rb : Nat} {c : Cell} (h : Box W b c) (d : Cell) (n : rb ≠ b) : Box (put W rb d) b c := by
  obtain ⟨a0, a1, a2, a3, a4⟩ := h
  refine ⟨?_, ?_, ?_, ?_, ?_⟩ <;> (rw [cell_put d n]; assumption)

set_option maxHeartbeats 1000000 in
theorem alive_any (w : World) :
    Calls Try.prog 7 #[] w fun e w' => e = .returned (.bool true) ∧ Below w.heap.size w w' := by
  go_enter Try.func7, Try.ntmps7
  go_wp2_with fail
  refine (ofs_any (some ⟨w.heap.size, 0, none⟩) 2 [3, -1] _ (iat2 w _ 3 (-1) 2 rfl) (by intro x hx; simp at hx; rcases hx with rfl | rfl <;> exact ⟨by decide, by decide⟩) (by decide)).mono ?_
  rintro e w1 ⟨rfl, n1⟩
  rw [f_of2]
  have d1 := belowAlloc n1
  clear n1
  go_wp2_with fail
  have A0 := Box.new w1 w1.heap.size ⟨2, 2, false, -1, 3⟩ rfl
  have E0 := d1.alloc d1.size (.cells #[.int .i64 2, .int .i64 2, .bool false, .int .i64 (-1), .int .i64 3] 25)
  simp only [] at A0
  generalize (w1.alloc _) = W at *
  generalize w1.heap.size = cb at *
  generalize Value.slice (some ⟨w.heap.size, 0, none⟩) 2 2 = v3
  rename_i Q' K aK
  clear d1
  have T_1_2_3_4_5_6_ : ∀ (w' : World) (n7 : Nat) (n9 : Nat) (db : Nat) (A : Box w' cb ⟨2, 2, false, -1, 3⟩) (E : Below w.heap.size w w') (DB : Spot w' db cb w.heap.size), wpAnyH Try.prog Region.Mode.any opsA (Exit.then K Q') (fun w' => Box w' cb ⟨2, 2, false, -1, 3⟩) 1 #[true, true, true, true, true, true, true, false] ⟨#[.bool false, .pointer (some ⟨cb, 0, none⟩), .pointer (some ⟨db, 0, none⟩), v3, .agg #[.int .i64 2, .int .i64 2, .bool false, .int .i64 (-1), .int .i64 3], .agg #[.int .i64 2, .int .i64 2, .bool false, .int .i64 (-1), .int .i64 3], .agg #[.int .i64 0, .int .i64 0, .bool false, .int .i64 0, .int .i64 0], .slice (some ⟨n7, 0, none⟩) 1 1, .agg #[.int .i64 1, .int .i64 9, .bool false, .int .i64 9, .int .i64 9], .slice (some ⟨n9, 0, none⟩) 3 3, .agg #[.int .i64 3, .int .i64 11, .bool false, .int .i64 (-1), .int .i64 9], undef, undef, undef, undef, undef, undef, undef, undef, undef, undef, undef, undef, undef, undef, undef, undef, undef, undef, undef, undef, undef, undef, undef, undef, undef, undef, undef, undef, undef, undef, undef, undef, undef, undef, undef, undef, undef], []⟩ w' := by
    intro w' n7 n9 db A E DB
    obtain ⟨r0, r1, r2, r3, r4⟩ := DB.1
    obtain ⟨f0, f1, f2, f3, f4⟩ := DB.2.1
    simp only [zero] at r0 r1 r2 r3 r4
    refine wpAnyH_ready (rs := [7]) (by kernel_rfl) (by simp) ?_
    refine AllReadyH.cons (o := { dst := none, op := Op.store 25 (Operand.tmp 2) (Operand.tmp 10), type := 0, pos := "law.go:13", after := #[{ on := 6, ground := Ground.data }, { on := 5, ground := Ground.data }, { on := 5, ground := Ground.chain }, { on := 0, ground := Ground.phase }, { on := 1, ground := Ground.phase }, { on := 2, ground := Ground.phase }, { on := 3, ground := Ground.phase }, { on := 4, ground := Ground.phase }, { on := 5, ground := Ground.phase }, { on := 6, ground := Ground.phase }], guard := none }) rfl (fun K1 hK => ?_) AllReadyH.nil
    go_simp
    clear r0 r1 r2 r3 r4 f0 f1 f2 f3 f4
    have hp := DB.1.set ⟨3, 11, false, -1, 9⟩ DB.2.1
    have A2 := A.far ⟨3, 11, false, -1, 9⟩ (Nat.ne_of_gt DB.2.2.1)
    have E2 := put_below ⟨3, 11, false, -1, 9⟩ E DB.2.2.2
    refine hK.out _ _ A2 (fun _ => ?_)
    clear hK K1
    refine wpAnyH_done (by kernel_rfl) ?_ _
    have HP := Lib.hid (put_def w' db ⟨3, 11, false, -1, 9⟩)
    simp only [] at HP
    rw [← HP.out]
    generalize put w' db ⟨3, 11, false, -1, 9⟩ = w3 at *
    have X := hp.1
    clear hp HP DB A E
    obtain ⟨x0, x1, x2, x3, x4⟩ := id X
    obtain ⟨a0, a1, a2, a3, a4⟩ := id A2
    have HX := Lib.hid X
    have HA := Lib.hid A2
    clear X A2
    refine aK _ _ ?_
    clear aK
    go_wp2_with fail
    refine (value_any ⟨3, 11, false, -1, 9⟩ 4 _).mono ?_
    rintro e w4 ⟨rfl, m4⟩
    rw [f_val4]
    have X4 := HX.out.on m4
    have A4 := HA.out.on m4
    have E4 := E2.trans (m4.mono E2.size)
    clear m4 HX HA E2 x0 x1 x2 x3 x4 a0 a1 a2 a3 a4
    obtain ⟨x0, x1, x2, x3, x4⟩ := id X4
    go_wp2_with fail
    refine (value_any ⟨3, 11, false, -1, 9⟩ 9 _).mono ?_
    rintro e w5 ⟨rfl, m5⟩
    rw [f_val9]
    have A5 := A4.on m5
    have E5 := E4.trans (m5.mono E4.size)
    clear m5 X4 A4 E4 x0 x1 x2 x3 x4
    go_wp2_with fail
    refine (ofs_any none 0 [] _ (fun h => absurd rfl h) (fun x hx => by cases hx) (by decide)).mono ?_
    rintro e w6 ⟨rfl, m6⟩
    simp only [f_of0, zero]
    have A6 := A5.on m6
    have E6 := E5.trans (m6.mono E5.size)
    clear m6 A5 E5
    go_wp2_with fail
    refine (empty_t zero _ (by decide)).mono ?_
    rintro e w7 ⟨rfl, hw7⟩
    have m7 : Below w6.heap.size w6 w7 := by rw [hw7]; exact aBelow _ _
    have A7 := A6.on m7
    have E7 := E6.trans (m7.mono E6.size)
    clear m7 A6 E6 hw7
    obtain ⟨a0, a1, a2, a3, a4⟩ := id A7
    go_wp2_with fail
    refine (empty_f ⟨2, 2, false, -1, 3⟩ _ (by decide)).mono ?_
    rintro e w8 ⟨rfl, hw8⟩
    have m8 : Below w7.heap.size w7 w8 := by rw [hw8]; exact aBelow _ _
    have A8 := A7.on m8
    have E8 := E7.trans (m8.mono E7.size)
    clear m8 A7 E7 hw8 a0 a1 a2 a3 a4
    obtain ⟨a0, a1, a2, a3, a4⟩ := id A8
    go_wp2_with fail
    refine (fold_any ⟨2, 2, false, -1, 3⟩ 5 _ ok2 ⟨by decide, by decide⟩).mono ?_
    rintro e w9 ⟨rfl, m9⟩
    rw [f_fold]
    have E9 := E8.trans (m9.mono E8.size)
    clear m9 A8 E8 a0 a1 a2 a3 a4
    have hfd := field_C 3 7 false (-1) 5
    go_wp2_with fail
    go_ret
    exact ⟨rfl, E9⟩
  have T_1_2_3_4_5_ : ∀ (w' : World) (n7 : Nat) (n9 : Nat) (A : Box w' cb ⟨2, 2, false, -1, 3⟩) (E : Below w.heap.size w w'), wpAnyH Try.prog Region.Mode.any opsA (Exit.then K Q') (fun w' => Box w' cb ⟨2, 2, false, -1, 3⟩) 2 #[true, true, true, true, true, true, false, false] ⟨#[.bool false, .pointer (some ⟨cb, 0, none⟩), undef, v3, .agg #[.int .i64 2, .int .i64 2, .bool false, .int .i64 (-1), .int .i64 3], .agg #[.int .i64 2, .int .i64 2, .bool false, .int .i64 (-1), .int .i64 3], .agg #[.int .i64 0, .int .i64 0, .bool false, .int .i64 0, .int .i64 0], .slice (some ⟨n7, 0, none⟩) 1 1, .agg #[.int .i64 1, .int .i64 9, .bool false, .int .i64 9, .int .i64 9], .slice (some ⟨n9, 0, none⟩) 3 3, .agg #[.int .i64 3, .int .i64 11, .bool false, .int .i64 (-1), .int .i64 9], undef, undef, undef, undef, undef, undef, undef, undef, undef, undef, undef, undef, undef, undef, undef, undef, undef, undef, undef, undef, undef, undef, undef, undef, undef, undef, undef, undef, undef, undef, undef, undef, undef, undef, undef, undef, undef], []⟩ w' := by
    intro w' n7 n9 A E
    refine wpAnyH_ready (rs := [6]) (by kernel_rfl) (by simp) ?_
    refine AllReadyH.cons (o := { dst := some 2, op := Op.alloc 25, type := 0, pos := "law.go:13", after := #[], guard := none }) rfl (fun K1 hK => ?_) ?_
    · go_simp
      have m1 := aBelow w' (.cells #[.int .i64 zero.cnt, .int .i64 zero.sn, .bool zero.so, .int .i64 zero.mn, .int .i64 zero.mx] 25)
      refine hK.out _ _ (A.on m1) (fun _ => ?_)
      clear hK K1
      simp only [List.setIfInBounds_toArray, List.set_cons_zero, List.set_cons_succ]
      exact T_1_2_3_4_5_6_ _ n7 n9 (w'.heap.size) (A.on m1) (E.trans (m1.mono E.size)) (Spot.new w' A.lt E.size)
    exact AllReadyH.nil
  have T_1_2_3_4_6_ : ∀ (w' : World) (n7 : Nat) (n9 : Nat) (db : Nat) (A : Box w' cb ⟨2, 2, false, -1, 3⟩) (E : Below w.heap.size w w') (N9 : CAt w' (some ⟨n9, 0, none⟩) [⟨2, 2, false, -1, 3⟩, zero, ⟨1, 9, false, 9, 9⟩]) (DB : Spot w' db cb w.heap.size), wpAnyH Try.prog Region.Mode.any opsA (Exit.then K Q') (fun w' => Box w' cb ⟨2, 2, false, -1, 3⟩) 2 #[true, true, true, true, true, false, true, false] ⟨#[.bool false, .pointer (some ⟨cb, 0, none⟩), .pointer (some ⟨db, 0, none⟩), v3, .agg #[.int .i64 2, .int .i64 2, .bool false, .int .i64 (-1), .int .i64 3], .agg #[.int .i64 2, .int .i64 2, .bool false, .int .i64 (-1), .int .i64 3], .agg #[.int .i64 0, .int .i64 0, .bool false, .int .i64 0, .int .i64 0], .slice (some ⟨n7, 0, none⟩) 1 1, .agg #[.int .i64 1, .int .i64 9, .bool false, .int .i64 9, .int .i64 9], .slice (some ⟨n9, 0, none⟩) 3 3, undef, undef, undef, undef, undef, undef, undef, undef, undef, undef, undef, undef, undef, undef, undef, undef, undef, undef, undef, undef, undef, undef, undef, undef, undef, undef, undef, undef, undef, undef, undef, undef, undef, undef, undef, undef, undef, undef], []⟩ w' := by
    intro w' n7 n9 db A E N9 DB
    refine wpAnyH_ready (rs := [5]) (by kernel_rfl) (by simp) ?_
    refine AllReadyH.cons (o := { dst := some 10, op := Op.call { callee := Callee.value (Operand.func 15), args := #[Operand.tmp 9], argTypes := #[35] }, type := 25, pos := "law.go:13", after := #[{ on := 4, ground := Ground.data }, { on := 3, ground := Ground.chain }], guard := none }) rfl (fun K1 hK => ?_) ?_
    · go_simp
      refine (merge_any (some ⟨n9, 0, none⟩) 3 [⟨2, 2, false, -1, 3⟩, zero, ⟨1, 9, false, 9, 9⟩] w' N9 ok3 (by decide)).mono ?_
      rintro e w2 ⟨rfl, m1⟩
      simp only [f_merge]
      refine hK.out _ _ (A.on m1) (fun _ => ?_)
      clear hK K1
      simp only [List.setIfInBounds_toArray, List.set_cons_zero, List.set_cons_succ]
      exact T_1_2_3_4_5_6_ _ n7 n9 db (A.on m1) (E.trans (m1.mono E.size)) (DB.on m1)
    exact AllReadyH.nil
  have T_1_2_3_4_ : ∀ (w' : World) (n7 : Nat) (n9 : Nat) (A : Box w' cb ⟨2, 2, false, -1, 3⟩) (E : Below w.heap.size w w') (N9 : CAt w' (some ⟨n9, 0, none⟩) [⟨2, 2, false, -1, 3⟩, zero, ⟨1, 9, false, 9, 9⟩]), wpAnyH Try.prog Region.Mode.any opsA (Exit.then K Q') (fun w' => Box w' cb ⟨2, 2, false, -1, 3⟩) 3 #[true, true, true, true, true, false, false, false] ⟨#[.bool false, .pointer (some ⟨cb, 0, none⟩), undef, v3, .agg #[.int .i64 2, .int .i64 2, .bool false, .int .i64 (-1), .int .i64 3], .agg #[.int .i64 2, .int .i64 2, .bool false, .int .i64 (-1), .int .i64 3], .agg #[.int .i64 0, .int .i64 0, .bool false, .int .i64 0, .int .i64 0], .slice (some ⟨n7, 0, none⟩) 1 1, .agg #[.int .i64 1, .int .i64 9, .bool false, .int .i64 9, .int .i64 9], .slice (some ⟨n9, 0, none⟩) 3 3, undef, undef, undef, undef, undef, undef, undef, undef, undef, undef, undef, undef, undef, undef, undef, undef, undef, undef, undef, undef, undef, undef, undef, undef, undef, undef, undef, undef, undef, undef, undef, undef, undef, undef, undef, undef, undef, undef], []⟩ w' := by
    intro w' n7 n9 A E N9
    refine wpAnyH_ready (rs := [5, 6]) (by kernel_rfl) (by simp) ?_
    refine AllReadyH.cons (o := { dst := some 10, op := Op.call { callee := Callee.value (Operand.func 15), args := #[Operand.tmp 9], argTypes := #[35] }, type := 25, pos := "law.go:13", after := #[{ on := 4, ground := Ground.data }, { on := 3, ground := Ground.chain }], guard := none }) rfl (fun K1 hK => ?_) ?_
    · go_simp
      refine (merge_any (some ⟨n9, 0, none⟩) 3 [⟨2, 2, false, -1, 3⟩, zero, ⟨1, 9, false, 9, 9⟩] w' N9 ok3 (by decide)).mono ?_
      rintro e w2 ⟨rfl, m1⟩
      simp only [f_merge]
      refine hK.out _ _ (A.on m1) (fun _ => ?_)
      clear hK K1
      simp only [List.setIfInBounds_toArray, List.set_cons_zero, List.set_cons_succ]
      exact T_1_2_3_4_5_ _ n7 n9 (A.on m1) (E.trans (m1.mono E.size))
    refine AllReadyH.cons (o := { dst := some 2, op := Op.alloc 25, type := 0, pos := "law.go:13", after := #[], guard := none }) rfl (fun K1 hK => ?_) ?_
    · go_simp
      have m1 := aBelow w' (.cells #[.int .i64 zero.cnt, .int .i64 zero.sn, .bool zero.so, .int .i64 zero.mn, .int .i64 zero.mx] 25)
      refine hK.out _ _ (A.on m1) (fun _ => ?_)
      clear hK K1
      simp only [List.setIfInBounds_toArray, List.set_cons_zero, List.set_cons_succ]
      exact T_1_2_3_4_6_ _ n7 n9 (w'.heap.size) (A.on m1) (E.trans (m1.mono E.size)) (N9.on m1) (Spot.new w' A.lt E.size)
    exact AllReadyH.nil
  have T_1_2_3_6_ : ∀ (w' : World) (n7 : Nat) (db : Nat) (A : Box w' cb ⟨2, 2, false, -1, 3⟩) (E : Below w.heap.size w w') (DB : Spot w' db cb w.heap.size), wpAnyH Try.prog Region.Mode.any opsA (Exit.then K Q') (fun w' => Box w' cb ⟨2, 2, false, -1, 3⟩) 3 #[true, true, true, true, false, false, true, false] ⟨#[.bool false, .pointer (some ⟨cb, 0, none⟩), .pointer (some ⟨db, 0, none⟩), v3, .agg #[.int .i64 2, .int .i64 2, .bool false, .int .i64 (-1), .int .i64 3], .agg #[.int .i64 2, .int .i64 2, .bool false, .int .i64 (-1), .int .i64 3], .agg #[.int .i64 0, .int .i64 0, .bool false, .int .i64 0, .int .i64 0], .slice (some ⟨n7, 0, none⟩) 1 1, .agg #[.int .i64 1, .int .i64 9, .bool false, .int .i64 9, .int .i64 9], undef, undef, undef, undef, undef, undef, undef, undef, undef, undef, undef, undef, undef, undef, undef, undef, undef, undef, undef, undef, undef, undef, undef, undef, undef, undef, undef, undef, undef, undef, undef, undef, undef, undef, undef, undef, undef, undef, undef], []⟩ w' := by
    intro w' n7 db A E DB
    refine wpAnyH_ready (rs := [4]) (by kernel_rfl) (by simp) ?_
    refine AllReadyH.cons (o := { dst := some 9, op := Op.buildSlice 35 3 #[(0, Operand.tmp 5), (1, Operand.tmp 6), (2, Operand.tmp 8)], type := 35, pos := "law.go:13", after := #[{ on := 0, ground := Ground.data }, { on := 1, ground := Ground.data }, { on := 3, ground := Ground.data }], guard := none }) rfl (fun K1 hK => ?_) ?_
    · go_simp
      have m1 := aBelow w' (.cells #[.int .i64 2, .int .i64 2, .bool false, .int .i64 (-1), .int .i64 3, .int .i64 0, .int .i64 0, .bool false, .int .i64 0, .int .i64 0, .int .i64 1, .int .i64 9, .bool false, .int .i64 9, .int .i64 9] 25)
      refine hK.out _ _ (A.on m1) (fun _ => ?_)
      clear hK K1
      simp only [List.setIfInBounds_toArray, List.set_cons_zero, List.set_cons_succ]
      exact T_1_2_3_4_6_ _ n7 (w'.heap.size) db (A.on m1) (E.trans (m1.mono E.size)) (cat3 w' _ ⟨2, 2, false, -1, 3⟩ zero ⟨1, 9, false, 9, 9⟩ rfl) (DB.on m1)
    exact AllReadyH.nil
  have T_1_2_3_ : ∀ (w' : World) (n7 : Nat) (A : Box w' cb ⟨2, 2, false, -1, 3⟩) (E : Below w.heap.size w w'), wpAnyH Try.prog Region.Mode.any opsA (Exit.then K Q') (fun w' => Box w' cb ⟨2, 2, false, -1, 3⟩) 4 #[true, true, true, true, false, false, false, false] ⟨#[.bool false, .pointer (some ⟨cb, 0, none⟩), undef, v3, .agg #[.int .i64 2, .int .i64 2, .bool false, .int .i64 (-1), .int .i64 3], .agg #[.int .i64 2, .int .i64 2, .bool false, .int .i64 (-1), .int .i64 3], .agg #[.int .i64 0, .int .i64 0, .bool false, .int .i64 0, .int .i64 0], .slice (some ⟨n7, 0, none⟩) 1 1, .agg #[.int .i64 1, .int .i64 9, .bool false, .int .i64 9, .int .i64 9], undef, undef, undef, undef, undef, undef, undef, undef, undef, undef, undef, undef, undef, undef, undef, undef, undef, undef, undef, undef, undef, undef, undef, undef, undef, undef, undef, undef, undef, undef, undef, undef, undef, undef, undef, undef, undef, undef, undef], []⟩ w' := by
    intro w' n7 A E
    refine wpAnyH_ready (rs := [4, 6]) (by kernel_rfl) (by simp) ?_
    refine AllReadyH.cons (o := { dst := some 9, op := Op.buildSlice 35 3 #[(0, Operand.tmp 5), (1, Operand.tmp 6), (2, Operand.tmp 8)], type := 35, pos := "law.go:13", after := #[{ on := 0, ground := Ground.data }, { on := 1, ground := Ground.data }, { on := 3, ground := Ground.data }], guard := none }) rfl (fun K1 hK => ?_) ?_
    · go_simp
      have m1 := aBelow w' (.cells #[.int .i64 2, .int .i64 2, .bool false, .int .i64 (-1), .int .i64 3, .int .i64 0, .int .i64 0, .bool false, .int .i64 0, .int .i64 0, .int .i64 1, .int .i64 9, .bool false, .int .i64 9, .int .i64 9] 25)
      refine hK.out _ _ (A.on m1) (fun _ => ?_)
      clear hK K1
      simp only [List.setIfInBounds_toArray, List.set_cons_zero, List.set_cons_succ]
      exact T_1_2_3_4_ _ n7 (w'.heap.size) (A.on m1) (E.trans (m1.mono E.size)) (cat3 w' _ ⟨2, 2, false, -1, 3⟩ zero ⟨1, 9, false, 9, 9⟩ rfl)
    refine AllReadyH.cons (o := { dst := some 2, op := Op.alloc 25, type := 0, pos := "law.go:13", after := #[], guard := none }) rfl (fun K1 hK => ?_) ?_
    · go_simp
      have m1 := aBelow w' (.cells #[.int .i64 zero.cnt, .int .i64 zero.sn, .bool zero.so, .int .i64 zero.mn, .int .i64 zero.mx] 25)
      refine hK.out _ _ (A.on m1) (fun _ => ?_)
      clear hK K1
      simp only [List.setIfInBounds_toArray, List.set_cons_zero, List.set_cons_succ]
      exact T_1_2_3_6_ _ n7 (w'.heap.size) (A.on m1) (E.trans (m1.mono E.size)) (Spot.new w' A.lt E.size)
    exact AllReadyH.nil
  have T_1_2_6_ : ∀ (w' : World) (n7 : Nat) (db : Nat) (A : Box w' cb ⟨2, 2, false, -1, 3⟩) (E : Below w.heap.size w w') (N7 : IAt w' (some ⟨n7, 0, none⟩) [9]) (DB : Spot w' db cb w.heap.size), wpAnyH Try.prog Region.Mode.any opsA (Exit.then K Q') (fun w' => Box w' cb ⟨2, 2, false, -1, 3⟩) 4 #[true, true, true, false, false, false, true, false] ⟨#[.bool false, .pointer (some ⟨cb, 0, none⟩), .pointer (some ⟨db, 0, none⟩), v3, .agg #[.int .i64 2, .int .i64 2, .bool false, .int .i64 (-1), .int .i64 3], .agg #[.int .i64 2, .int .i64 2, .bool false, .int .i64 (-1), .int .i64 3], .agg #[.int .i64 0, .int .i64 0, .bool false, .int .i64 0, .int .i64 0], .slice (some ⟨n7, 0, none⟩) 1 1, undef, undef, undef, undef, undef, undef, undef, undef, undef, undef, undef, undef, undef, undef, undef, undef, undef, undef, undef, undef, undef, undef, undef, undef, undef, undef, undef, undef, undef, undef, undef, undef, undef, undef, undef, undef, undef, undef, undef, undef], []⟩ w' := by
    intro w' n7 db A E N7 DB
    refine wpAnyH_ready (rs := [3]) (by kernel_rfl) (by simp) ?_
    refine AllReadyH.cons (o := { dst := some 8, op := Op.call { callee := Callee.value (Operand.func 13), args := #[Operand.tmp 7], argTypes := #[31] }, type := 25, pos := "law.go:13", after := #[{ on := 2, ground := Ground.data }, { on := 1, ground := Ground.chain }], guard := none }) rfl (fun K1 hK => ?_) ?_
    · go_simp
      refine (ofs_any (some ⟨n7, 0, none⟩) 1 [9] w' N7 (fun x hx => by simp at hx; subst hx; exact ⟨by decide, by decide⟩) (by decide)).mono ?_
      rintro e w2 ⟨rfl, m1⟩
      simp only [f_of1]
      refine hK.out _ _ (A.on m1) (fun _ => ?_)
      clear hK K1
      simp only [List.setIfInBounds_toArray, List.set_cons_zero, List.set_cons_succ]
      exact T_1_2_3_6_ _ n7 db (A.on m1) (E.trans (m1.mono E.size)) (DB.on m1)
    exact AllReadyH.nil
  have T_1_2_ : ∀ (w' : World) (n7 : Nat) (A : Box w' cb ⟨2, 2, false, -1, 3⟩) (E : Below w.heap.size w w') (N7 : IAt w' (some ⟨n7, 0, none⟩) [9]), wpAnyH Try.prog Region.Mode.any opsA (Exit.then K Q') (fun w' => Box w' cb ⟨2, 2, false, -1, 3⟩) 5 #[true, true, true, false, false, false, false, false] ⟨#[.bool false, .pointer (some ⟨cb, 0, none⟩), undef, v3, .agg #[.int .i64 2, .int .i64 2, .bool false, .int .i64 (-1), .int .i64 3], .agg #[.int .i64 2, .int .i64 2, .bool false, .int .i64 (-1), .int .i64 3], .agg #[.int .i64 0, .int .i64 0, .bool false, .int .i64 0, .int .i64 0], .slice (some ⟨n7, 0, none⟩) 1 1, undef, undef, undef, undef, undef, undef, undef, undef, undef, undef, undef, undef, undef, undef, undef, undef, undef, undef, undef, undef, undef, undef, undef, undef, undef, undef, undef, undef, undef, undef, undef, undef, undef, undef, undef, undef, undef, undef, undef, undef], []⟩ w' := by
    intro w' n7 A E N7
    refine wpAnyH_ready (rs := [3, 6]) (by kernel_rfl) (by simp) ?_
    refine AllReadyH.cons (o := { dst := some 8, op := Op.call { callee := Callee.value (Operand.func 13), args := #[Operand.tmp 7], argTypes := #[31] }, type := 25, pos := "law.go:13", after := #[{ on := 2, ground := Ground.data }, { on := 1, ground := Ground.chain }], guard := none }) rfl (fun K1 hK => ?_) ?_
    · go_simp
      refine (ofs_any (some ⟨n7, 0, none⟩) 1 [9] w' N7 (fun x hx => by simp at hx; subst hx; exact ⟨by decide, by decide⟩) (by decide)).mono ?_
      rintro e w2 ⟨rfl, m1⟩
      simp only [f_of1]
      refine hK.out _ _ (A.on m1) (fun _ => ?_)
      clear hK K1
      simp only [List.setIfInBounds_toArray, List.set_cons_zero, List.set_cons_succ]
      exact T_1_2_3_ _ n7 (A.on m1) (E.trans (m1.mono E.size))
    refine AllReadyH.cons (o := { dst := some 2, op := Op.alloc 25, type := 0, pos := "law.go:13", after := #[], guard := none }) rfl (fun K1 hK => ?_) ?_
    · go_simp
      have m1 := aBelow w' (.cells #[.int .i64 zero.cnt, .int .i64 zero.sn, .bool zero.so, .int .i64 zero.mn, .int .i64 zero.mx] 25)
      refine hK.out _ _ (A.on m1) (fun _ => ?_)
      clear hK K1
      simp only [List.setIfInBounds_toArray, List.set_cons_zero, List.set_cons_succ]
      exact T_1_2_6_ _ n7 (w'.heap.size) (A.on m1) (E.trans (m1.mono E.size)) (N7.on m1) (Spot.new w' A.lt E.size)
    exact AllReadyH.nil
  have T_1_6_ : ∀ (w' : World) (db : Nat) (A : Box w' cb ⟨2, 2, false, -1, 3⟩) (E : Below w.heap.size w w') (DB : Spot w' db cb w.heap.size), wpAnyH Try.prog Region.Mode.any opsA (Exit.then K Q') (fun w' => Box w' cb ⟨2, 2, false, -1, 3⟩) 5 #[true, true, false, false, false, false, true, false] ⟨#[.bool false, .pointer (some ⟨cb, 0, none⟩), .pointer (some ⟨db, 0, none⟩), v3, .agg #[.int .i64 2, .int .i64 2, .bool false, .int .i64 (-1), .int .i64 3], .agg #[.int .i64 2, .int .i64 2, .bool false, .int .i64 (-1), .int .i64 3], .agg #[.int .i64 0, .int .i64 0, .bool false, .int .i64 0, .int .i64 0], undef, undef, undef, undef, undef, undef, undef, undef, undef, undef, undef, undef, undef, undef, undef, undef, undef, undef, undef, undef, undef, undef, undef, undef, undef, undef, undef, undef, undef, undef, undef, undef, undef, undef, undef, undef, undef, undef, undef, undef, undef], []⟩ w' := by
    intro w' db A E DB
    refine wpAnyH_ready (rs := [2]) (by kernel_rfl) (by simp) ?_
    refine AllReadyH.cons (o := { dst := some 7, op := Op.buildSlice 31 1 #[(0, Operand.const (Value.int IntKind.i64 9))], type := 31, pos := "law.go:13", after := #[], guard := none }) rfl (fun K1 hK => ?_) ?_
    · go_simp
      have m1 := aBelow w' (.cells #[.int .i64 9] 2)
      refine hK.out _ _ (A.on m1) (fun _ => ?_)
      clear hK K1
      simp only [List.setIfInBounds_toArray, List.set_cons_zero, List.set_cons_succ]
      exact T_1_2_6_ _ (w'.heap.size) db (A.on m1) (E.trans (m1.mono E.size)) (iat1 w' _ 9 2 rfl) (DB.on m1)
    exact AllReadyH.nil
  have T_2_6_ : ∀ (w' : World) (n7 : Nat) (db : Nat) (A : Box w' cb ⟨2, 2, false, -1, 3⟩) (E : Below w.heap.size w w') (N7 : IAt w' (some ⟨n7, 0, none⟩) [9]) (DB : Spot w' db cb w.heap.size), wpAnyH Try.prog Region.Mode.any opsA (Exit.then K Q') (fun w' => Box w' cb ⟨2, 2, false, -1, 3⟩) 5 #[true, false, true, false, false, false, true, false] ⟨#[.bool false, .pointer (some ⟨cb, 0, none⟩), .pointer (some ⟨db, 0, none⟩), v3, .agg #[.int .i64 2, .int .i64 2, .bool false, .int .i64 (-1), .int .i64 3], .agg #[.int .i64 2, .int .i64 2, .bool false, .int .i64 (-1), .int .i64 3], undef, .slice (some ⟨n7, 0, none⟩) 1 1, undef, undef, undef, undef, undef, undef, undef, undef, undef, undef, undef, undef, undef, undef, undef, undef, undef, undef, undef, undef, undef, undef, undef, undef, undef, undef, undef, undef, undef, undef, undef, undef, undef, undef, undef, undef, undef, undef, undef, undef], []⟩ w' := by
    intro w' n7 db A E N7 DB
    refine wpAnyH_ready (rs := [1]) (by kernel_rfl) (by simp) ?_
    refine AllReadyH.cons (o := { dst := some 6, op := Op.call { callee := Callee.value (Operand.func 13), args := #[Operand.const (Value.slice none 0 0)], argTypes := #[31] }, type := 25, pos := "law.go:13", after := #[], guard := none }) rfl (fun K1 hK => ?_) ?_
    · go_simp
      refine (ofs_any none 0 [] w' (fun h => absurd rfl h) (fun x hx => by cases hx) (by decide)).mono ?_
      rintro e w2 ⟨rfl, m1⟩
      simp only [f_of0, zero]
      refine hK.out _ _ (A.on m1) (fun _ => ?_)
      clear hK K1
      simp only [List.setIfInBounds_toArray, List.set_cons_zero, List.set_cons_succ]
      exact T_1_2_6_ _ n7 db (A.on m1) (E.trans (m1.mono E.size)) (N7.on m1) (DB.on m1)
    exact AllReadyH.nil
  have T_1_ : ∀ (w' : World) (A : Box w' cb ⟨2, 2, false, -1, 3⟩) (E : Below w.heap.size w w'), wpAnyH Try.prog Region.Mode.any opsA (Exit.then K Q') (fun w' => Box w' cb ⟨2, 2, false, -1, 3⟩) 6 #[true, true, false, false, false, false, false, false] ⟨#[.bool false, .pointer (some ⟨cb, 0, none⟩), undef, v3, .agg #[.int .i64 2, .int .i64 2, .bool false, .int .i64 (-1), .int .i64 3], .agg #[.int .i64 2, .int .i64 2, .bool false, .int .i64 (-1), .int .i64 3], .agg #[.int .i64 0, .int .i64 0, .bool false, .int .i64 0, .int .i64 0], undef, undef, undef, undef, undef, undef, undef, undef, undef, undef, undef, undef, undef, undef, undef, undef, undef, undef, undef, undef, undef, undef, undef, undef, undef, undef, undef, undef, undef, undef, undef, undef, undef, undef, undef, undef, undef, undef, undef, undef, undef], []⟩ w' := by
    intro w' A E
    refine wpAnyH_ready (rs := [2, 6]) (by kernel_rfl) (by simp) ?_
    refine AllReadyH.cons (o := { dst := some 7, op := Op.buildSlice 31 1 #[(0, Operand.const (Value.int IntKind.i64 9))], type := 31, pos := "law.go:13", after := #[], guard := none }) rfl (fun K1 hK => ?_) ?_
    · go_simp
      have m1 := aBelow w' (.cells #[.int .i64 9] 2)
      refine hK.out _ _ (A.on m1) (fun _ => ?_)
      clear hK K1
      simp only [List.setIfInBounds_toArray, List.set_cons_zero, List.set_cons_succ]
      exact T_1_2_ _ (w'.heap.size) (A.on m1) (E.trans (m1.mono E.size)) (iat1 w' _ 9 2 rfl)
    refine AllReadyH.cons (o := { dst := some 2, op := Op.alloc 25, type := 0, pos := "law.go:13", after := #[], guard := none }) rfl (fun K1 hK => ?_) ?_
    · go_simp
      have m1 := aBelow w' (.cells #[.int .i64 zero.cnt, .int .i64 zero.sn, .bool zero.so, .int .i64 zero.mn, .int .i64 zero.mx] 25)
      refine hK.out _ _ (A.on m1) (fun _ => ?_)
      clear hK K1
      simp only [List.setIfInBounds_toArray, List.set_cons_zero, List.set_cons_succ]
      exact T_1_6_ _ (w'.heap.size) (A.on m1) (E.trans (m1.mono E.size)) (Spot.new w' A.lt E.size)
    exact AllReadyH.nil
  have T_2_ : ∀ (w' : World) (n7 : Nat) (A : Box w' cb ⟨2, 2, false, -1, 3⟩) (E : Below w.heap.size w w') (N7 : IAt w' (some ⟨n7, 0, none⟩) [9]), wpAnyH Try.prog Region.Mode.any opsA (Exit.then K Q') (fun w' => Box w' cb ⟨2, 2, false, -1, 3⟩) 6 #[true, false, true, false, false, false, false, false] ⟨#[.bool false, .pointer (some ⟨cb, 0, none⟩), undef, v3, .agg #[.int .i64 2, .int .i64 2, .bool false, .int .i64 (-1), .int .i64 3], .agg #[.int .i64 2, .int .i64 2, .bool false, .int .i64 (-1), .int .i64 3], undef, .slice (some ⟨n7, 0, none⟩) 1 1, undef, undef, undef, undef, undef, undef, undef, undef, undef, undef, undef, undef, undef, undef, undef, undef, undef, undef, undef, undef, undef, undef, undef, undef, undef, undef, undef, undef, undef, undef, undef, undef, undef, undef, undef, undef, undef, undef, undef, undef], []⟩ w' := by
    intro w' n7 A E N7
    refine wpAnyH_ready (rs := [1, 6]) (by kernel_rfl) (by simp) ?_
    refine AllReadyH.cons (o := { dst := some 6, op := Op.call { callee := Callee.value (Operand.func 13), args := #[Operand.const (Value.slice none 0 0)], argTypes := #[31] }, type := 25, pos := "law.go:13", after := #[], guard := none }) rfl (fun K1 hK => ?_) ?_
    · go_simp
      refine (ofs_any none 0 [] w' (fun h => absurd rfl h) (fun x hx => by cases hx) (by decide)).mono ?_
      rintro e w2 ⟨rfl, m1⟩
      simp only [f_of0, zero]
      refine hK.out _ _ (A.on m1) (fun _ => ?_)
      clear hK K1
      simp only [List.setIfInBounds_toArray, List.set_cons_zero, List.set_cons_succ]
      exact T_1_2_ _ n7 (A.on m1) (E.trans (m1.mono E.size)) (N7.on m1)
    refine AllReadyH.cons (o := { dst := some 2, op := Op.alloc 25, type := 0, pos := "law.go:13", after := #[], guard := none }) rfl (fun K1 hK => ?_) ?_
    · go_simp
      have m1 := aBelow w' (.cells #[.int .i64 zero.cnt, .int .i64 zero.sn, .bool zero.so, .int .i64 zero.mn, .int .i64 zero.mx] 25)
      refine hK.out _ _ (A.on m1) (fun _ => ?_)
      clear hK K1
      simp only [List.setIfInBounds_toArray, List.set_cons_zero, List.set_cons_succ]
      exact T_2_6_ _ n7 (w'.heap.size) (A.on m1) (E.trans (m1.mono E.size)) (N7.on m1) (Spot.new w' A.lt E.size)
    exact AllReadyH.nil
  have T_6_ : ∀ (w' : World) (db : Nat) (A : Box w' cb ⟨2, 2, false, -1, 3⟩) (E : Below w.heap.size w w') (DB : Spot w' db cb w.heap.size), wpAnyH Try.prog Region.Mode.any opsA (Exit.then K Q') (fun w' => Box w' cb ⟨2, 2, false, -1, 3⟩) 6 #[true, false, false, false, false, false, true, false] ⟨#[.bool false, .pointer (some ⟨cb, 0, none⟩), .pointer (some ⟨db, 0, none⟩), v3, .agg #[.int .i64 2, .int .i64 2, .bool false, .int .i64 (-1), .int .i64 3], .agg #[.int .i64 2, .int .i64 2, .bool false, .int .i64 (-1), .int .i64 3], undef, undef, undef, undef, undef, undef, undef, undef, undef, undef, undef, undef, undef, undef, undef, undef, undef, undef, undef, undef, undef, undef, undef, undef, undef, undef, undef, undef, undef, undef, undef, undef, undef, undef, undef, undef, undef, undef, undef, undef, undef, undef], []⟩ w' := by
    intro w' db A E DB
    refine wpAnyH_ready (rs := [1, 2]) (by kernel_rfl) (by simp) ?_
    refine AllReadyH.cons (o := { dst := some 6, op := Op.call { callee := Callee.value (Operand.func 13), args := #[Operand.const (Value.slice none 0 0)], argTypes := #[31] }, type := 25, pos := "law.go:13", after := #[], guard := none }) rfl (fun K1 hK => ?_) ?_
    · go_simp
      refine (ofs_any none 0 [] w' (fun h => absurd rfl h) (fun x hx => by cases hx) (by decide)).mono ?_
      rintro e w2 ⟨rfl, m1⟩
      simp only [f_of0, zero]
      refine hK.out _ _ (A.on m1) (fun _ => ?_)
      clear hK K1
      simp only [List.setIfInBounds_toArray, List.set_cons_zero, List.set_cons_succ]
      exact T_1_6_ _ db (A.on m1) (E.trans (m1.mono E.size)) (DB.on m1)
    refine AllReadyH.cons (o := { dst := some 7, op := Op.buildSlice 31 1 #[(0, Operand.const (Value.int IntKind.i64 9))], type := 31, pos := "law.go:13", after := #[], guard := none }) rfl (fun K1 hK => ?_) ?_
    · go_simp
      have m1 := aBelow w' (.cells #[.int .i64 9] 2)
      refine hK.out _ _ (A.on m1) (fun _ => ?_)
      clear hK K1
      simp only [List.setIfInBounds_toArray, List.set_cons_zero, List.set_cons_succ]
      exact T_2_6_ _ (w'.heap.size) db (A.on m1) (E.trans (m1.mono E.size)) (iat1 w' _ 9 2 rfl) (DB.on m1)
    exact AllReadyH.nil
  have T_ : ∀ (w' : World) (A : Box w' cb ⟨2, 2, false, -1, 3⟩) (E : Below w.heap.size w w'), wpAnyH Try.prog Region.Mode.any opsA (Exit.then K Q') (fun w' => Box w' cb ⟨2, 2, false, -1, 3⟩) 7 #[true, false, false, false, false, false, false, false] ⟨#[.bool false, .pointer (some ⟨cb, 0, none⟩), undef, v3, .agg #[.int .i64 2, .int .i64 2, .bool false, .int .i64 (-1), .int .i64 3], .agg #[.int .i64 2, .int .i64 2, .bool false, .int .i64 (-1), .int .i64 3], undef, undef, undef, undef, undef, undef, undef, undef, undef, undef, undef, undef, undef, undef, undef, undef, undef, undef, undef, undef, undef, undef, undef, undef, undef, undef, undef, undef, undef, undef, undef, undef, undef, undef, undef, undef, undef, undef, undef, undef, undef, undef], []⟩ w' := by
    intro w' A E
    refine wpAnyH_ready (rs := [1, 2, 6]) (by kernel_rfl) (by simp) ?_
    refine AllReadyH.cons (o := { dst := some 6, op := Op.call { callee := Callee.value (Operand.func 13), args := #[Operand.const (Value.slice none 0 0)], argTypes := #[31] }, type := 25, pos := "law.go:13", after := #[], guard := none }) rfl (fun K1 hK => ?_) ?_
    · go_simp
      refine (ofs_any none 0 [] w' (fun h => absurd rfl h) (fun x hx => by cases hx) (by decide)).mono ?_
      rintro e w2 ⟨rfl, m1⟩
      simp only [f_of0, zero]
      refine hK.out _ _ (A.on m1) (fun _ => ?_)
      clear hK K1
      simp only [List.setIfInBounds_toArray, List.set_cons_zero, List.set_cons_succ]
      exact T_1_ _ (A.on m1) (E.trans (m1.mono E.size))
    refine AllReadyH.cons (o := { dst := some 7, op := Op.buildSlice 31 1 #[(0, Operand.const (Value.int IntKind.i64 9))], type := 31, pos := "law.go:13", after := #[], guard := none }) rfl (fun K1 hK => ?_) ?_
    · go_simp
      have m1 := aBelow w' (.cells #[.int .i64 9] 2)
      refine hK.out _ _ (A.on m1) (fun _ => ?_)
      clear hK K1
      simp only [List.setIfInBounds_toArray, List.set_cons_zero, List.set_cons_succ]
      exact T_2_ _ (w'.heap.size) (A.on m1) (E.trans (m1.mono E.size)) (iat1 w' _ 9 2 rfl)
    refine AllReadyH.cons (o := { dst := some 2, op := Op.alloc 25, type := 0, pos := "law.go:13", after := #[], guard := none }) rfl (fun K1 hK => ?_) ?_
    · go_simp
      have m1 := aBelow w' (.cells #[.int .i64 zero.cnt, .int .i64 zero.sn, .bool zero.so, .int .i64 zero.mn, .int .i64 zero.mx] 25)
      refine hK.out _ _ (A.on m1) (fun _ => ?_)
      clear hK K1
      simp only [List.setIfInBounds_toArray, List.set_cons_zero, List.set_cons_succ]
      exact T_6_ _ (w'.heap.size) (A.on m1) (E.trans (m1.mono E.size)) (Spot.new w' A.lt E.size)
    exact AllReadyH.nil
  refine wp_region_held_drew (ops := opsA) (S := fun w' => Box w' cb ⟨2, 2, false, -1, 3⟩) (by kernel_rfl) A0 (fun hHeld => ?_)
  have hrep : Array.replicate opsA.size false = #[false, false, false, false, false, false, false, false] := by kernel_rfl
  have hsz : opsA.size = 8 := by kernel_rfl
  rw [hrep, hsz]
  refine wpAnyH_take (i := 0) (oi := { dst := some 5, op := Op.load 25 (Operand.tmp 1), type := 25, pos := "law.go:13", after := #[], guard := none }) (v := ?_) rfl (by kernel_rfl) (by kernel_rfl) (by kernel_rfl) (fun _ _ _ h => h) (Or.inl ⟨by rfl, ?_⟩) hHeld ?_
  rotate_left
  · intro w hSw
    obtain ⟨s0, s1, s2, s3, s4⟩ := hSw
    go_simp
    (try with_reducible rfl)
  (try simp only [Act.put, List.setIfInBounds_toArray, List.set_cons_zero, List.set_cons_succ])
  exact T_ W.drew A0 E0.drew
end Go.Proofs.Ytnpnikgbjdeboaa
