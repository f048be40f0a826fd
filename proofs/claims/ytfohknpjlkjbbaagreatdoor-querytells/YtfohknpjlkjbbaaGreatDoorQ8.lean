/- Walks: the document's text of a query. -/
import Derived.Test.YtfohknpjlkjbbaaGreatDoorQ7
namespace Go.Proofs.YtfohknpjlkjbbaaGreatDoor
open Go Go.RowKit Tg Pk Ky Qy

theorem agg_cell (w : World) (g : Int) (h : g = 1 ∨ g = 2 ∨ g = 3 ∨ g = 4) : (w.alloc aggsO).cell? ⟨w.heap.size, g.toNat, none⟩ = some (.string (aggB g)) := by
  rcases h with rfl | rfl | rfl | rfl
  · rw [aggB1]; simp [aggsO]
  · rw [aggB2]; simp [aggsO]
  · rw [aggB3]; simp [aggsO]
  · rw [aggB4]; simp [aggsO]
set_option maxRecDepth 100000 in
set_option maxHeartbeats 2000000 in
theorem refQtext_any (v : Value) (q : Query) (w : World) (h : QRow w v q) (hz : q.2.1.size ≤ 281474976710656) (hn : q.2.2.1.length ≤ 1000000) (hm : ∀ x ∈ q.2.2.1, x.2.1.size ≤ 281474976710656 ∧ x.2.2.size ≤ 281474976710656) (hn2 : q.2.2.2.length ≤ 1000000) (hb : ∀ x ∈ q.2.2.2, x.size ≤ 281474976710656) :
    Calls Tryz.prog 12 #[v] w fun e w' => e = .returned (.string (qtextB q)) ∧ Below w.heap.size w w' := by
  obtain ⟨a, c, b, d, rfl, rm, rb⟩ := h.open
  have HR := Lib.hid (fun W (n : Below w.heap.size w W) => refQright_any _ q W (h.on n) hz hn hm hn2 hb)
  clear h
  unfold qtextB
  cases hr : qright q
  · rw [hr] at HR
    rw [if_neg (by simp)]
    go_enter Tryz.func12, Tryz.ntmps12
    go_wp2_with fail
    refine (HR.out _ (aBelow _ _)).mono ?_
    rintro e w1 ⟨rfl, n1⟩
    have d1 := belowA n1
    go_wp2_with fail
    go_ret
    exact ⟨rfl, d1⟩
  · rw [hr] at HR
    rw [if_pos rfl]
    obtain ⟨z1, z2, z3, z4, z5, z6, z7⟩ := qright_small hr
    have z8 := aggB_size q.1
    have hok : aggOk q.1 = true := by
      simp only [qright, Bool.and_eq_true] at hr
      exact hr.1.1.1
    have hag := agg_cases hok
    have HW := Lib.hid (fun W => refAggs_any W)
    have HA := Lib.hid (fun W : World => agg_cell W q.1 hag)
    have g0 : 0 ≤ q.1 := by omega
    have g4 : q.1 < 5 := by omega
    clear hok hag
    have HT := Lib.hid (fun W (n : Below w.heap.size w W) => refTextM_any _ q.2.2.1 W (rm.on n) (by omega) (fun x hx => by have := z3 x hx; omega) (by omega))
    have HJ : Hid (∀ W (n : Below w.heap.size w W), Calls Tryz.prog 35 #[.string ⟨#[44]⟩, .slice b q.2.2.2.length d] W fun e w' => e = .returned (.string (joinC q.2.2.2)) ∧ Below W.heap.size W w') := fun W n => (refJoin_any _ q.2.2.2 ⟨#[44]⟩ W (rb.on n) (by omega) (by show (joinC q.2.2.2).size ≤ _; omega)).mono fun e w' ⟨he, hw⟩ => ⟨he, hw ▸ Below.refl _ _⟩
    have HQ2 : Hid (∀ t, (q.2.2.1 = [] → qt2 t q.2.2.1 = t) ∧ (¬ q.2.2.1 = [] → qt2 t q.2.2.1 = t ++ (⟨#[123]⟩ ++ ptextB q.2.2.1 ++ ⟨#[125]⟩))) := fun t => ⟨fun h => if_pos h, fun h => if_neg h⟩
    have HQ3 : Hid (∀ t, (q.2.2.2 = [] → qt3 t q.2.2.2 = t) ∧ (¬ q.2.2.2 = [] → qt3 t q.2.2.2 = t ++ (⟨#[32, 98, 121, 32]⟩ ++ joinC q.2.2.2))) := fun t => ⟨fun h => if_pos h, fun h => if_neg h⟩
    have HM0 : Hid (q.2.2.1 = [] ↔ q.2.2.1.length = 0) := List.length_eq_zero_iff.symm
    have HB0 : Hid (q.2.2.2 = [] ↔ q.2.2.2.length = 0) := List.length_eq_zero_iff.symm
    unfold qt1
    generalize aggB q.1 = ta at *
    clear rm rb hz hn hm hn2 hb z3 z6 hr
    obtain ⟨g, n, m, l⟩ := q
    dsimp only at *
    generalize ptextB m = tm at *
    generalize joinC l = tb at *
    generalize m.length = lm at *
    generalize l.length = lb at *
    have u1 : ¬ 9223372036854775807 < ta.size + 1 := by omega
    have u2 : ¬ 9223372036854775807 < ta.size + 1 + n.size := by omega
    go_enter Tryz.func12, Tryz.ntmps12
    go_wp2_with fail
    refine (HR.out _ (aBelow _ _)).mono ?_
    rintro e w1 ⟨rfl, n1⟩
    have c0 := newC (i := 0) n1
    have c1 := newC (i := 1) n1
    have c2 := newC (i := 2) n1
    have c3 := newC (i := 3) n1
    simp at c0 c1 c2 c3
    have d1 := belowA n1
    clear n1 HR
    go_wp2_with fail
    have hS := And.intro c0 (And.intro c1 (And.intro c2 (And.intro c3 d1)))
    clear c0 c1 c2 c3 d1
    generalize hg : w.heap.size = ab at *
    have HG := Lib.hid hg
    clear hg
    have hSd := box_drew hS
    have hSc := box_drew (box_on hS (aBelow w1 aggsO))
    have hC : ((w1.alloc aggsO).drew).cell? ⟨w1.heap.size, g.toNat, none⟩ = some (.string ta) := HA.out w1
    clear HA
    refine wp_region_held_drew (S := (fun w' => w'.cell? ⟨ab, 0, none⟩ = some (.int .i64 g) ∧ w'.cell? ⟨ab, 1, none⟩ = some (.string n) ∧ w'.cell? ⟨ab, 2, none⟩ = some (.slice a lm c) ∧ w'.cell? ⟨ab, 3, none⟩ = some (.slice b lb d) ∧ Below ab w w')) (by kernel_rfl) hSd (fun hHeld => ?_)
    refine wpAnyH_take (i := 1) (oi := { dst := some 8, op := Op.fieldAddr 25 (Operand.tmp 1) 0, type := 0, pos := "ref.go:45", after := #[], guard := none }) (v := ?_) rfl (by kernel_rfl) (by kernel_rfl) (by kernel_rfl) (fun _ _ _ h => h) (Or.inl ⟨by rfl, ?_⟩) hHeld ?_
    rotate_left
    · intro w hSw
      (try dsimp only at hSw)
      go_simp
      (try with_reducible rfl)
    (try simp only [Act.put, List.setIfInBounds_toArray, List.set_cons_zero, List.set_cons_succ])
    refine wpAnyH_take (i := 2) (oi := { dst := some 9, op := Op.load 3 (Operand.tmp 8), type := 3, pos := "ref.go:45", after := #[{ on := 1, ground := Ground.data }], guard := none }) (v := ?_) rfl (by kernel_rfl) (by kernel_rfl) (by kernel_rfl) (fun _ _ _ h => h) (Or.inl ⟨by rfl, ?_⟩) hHeld ?_
    rotate_left
    · intro w hSw
      (try dsimp only at hSw)
      go_simp
      (try with_reducible rfl)
    (try simp only [Act.put, List.setIfInBounds_toArray, List.set_cons_zero, List.set_cons_succ])
    refine wpAnyH_take (i := 6) (oi := { dst := some 13, op := Op.fieldAddr 25 (Operand.tmp 1) 1, type := 0, pos := "ref.go:45", after := #[], guard := none }) (v := ?_) rfl (by kernel_rfl) (by kernel_rfl) (by kernel_rfl) (fun _ _ _ h => h) (Or.inl ⟨by rfl, ?_⟩) hHeld ?_
    rotate_left
    · intro w hSw
      (try dsimp only at hSw)
      go_simp
      (try with_reducible rfl)
    (try simp only [Act.put, List.setIfInBounds_toArray, List.set_cons_zero, List.set_cons_succ])
    refine wpAnyH_take (i := 7) (oi := { dst := some 14, op := Op.load 9 (Operand.tmp 13), type := 9, pos := "ref.go:45", after := #[{ on := 6, ground := Ground.data }], guard := none }) (v := ?_) rfl (by kernel_rfl) (by kernel_rfl) (by kernel_rfl) (fun _ _ _ h => h) (Or.inl ⟨by rfl, ?_⟩) hHeld ?_
    rotate_left
    · intro w hSw
      (try dsimp only at hSw)
      go_simp
      (try with_reducible rfl)
    (try simp only [Act.put, List.setIfInBounds_toArray, List.set_cons_zero, List.set_cons_succ])
    refine wpAnyH_ready (rs := [0]) (by kernel_rfl) (by simp) ?_
    refine AllReadyH.cons (o := { dst := some 7, op := Op.call { callee := Callee.value (Operand.func 33), args := #[], argTypes := #[] }, type := 23, pos := "ref.go:45", after := #[], guard := none }) rfl (fun K hK => ?_) AllReadyH.nil
    go_simp
    refine (HW.out _).mono ?_
    rintro e w3 ⟨rfl, rfl⟩
    (try go_wp2_with fail)
    refine hK.out _ _ hSc (fun hHeld => ?_)
    clear hK K
    (try simp only [Act.put, List.setIfInBounds_toArray, List.set_cons_zero, List.set_cons_succ])
    refine wpAnyH_take (i := 3) (oi := { dst := some 10, op := Op.indexAddr 23 (Operand.tmp 7) (Operand.tmp 9), type := 0, pos := "ref.go:45", after := #[{ on := 0, ground := Ground.data }, { on := 2, ground := Ground.data }], guard := none }) (v := ?_) rfl (by kernel_rfl) (by kernel_rfl) (by kernel_rfl) (fun _ _ _ h => h) (Or.inl ⟨by rfl, ?_⟩) hHeld ?_
    rotate_left
    · intro w hSw
      (try dsimp only at hSw)
      go_simp
      (try with_reducible rfl)
    (try simp only [Act.put, List.setIfInBounds_toArray, List.set_cons_zero, List.set_cons_succ])
    refine wpAnyH_ready (rs := [4]) (by kernel_rfl) (by simp) ?_
    refine AllReadyH.cons (o := { dst := some 11, op := Op.load 9 (Operand.tmp 10), type := 9, pos := "ref.go:45", after := #[{ on := 3, ground := Ground.data }], guard := none }) rfl (fun K hK => ?_) AllReadyH.nil
    go_simp
    refine hK.out _ _ hSc (fun hHeld => ?_)
    clear hK K
    (try simp only [Act.put, List.setIfInBounds_toArray, List.set_cons_zero, List.set_cons_succ])
    refine wpAnyH_take (i := 5) (oi := { dst := some 12, op := Op.binOp BinOp.add 9 (Operand.tmp 11) (Operand.const (Value.string { data := #[32] })) 9, type := 9, pos := "ref.go:45", after := #[{ on := 4, ground := Ground.data }], guard := none }) (v := ?_) rfl (by kernel_rfl) (by kernel_rfl) (by kernel_rfl) (fun _ _ _ h => h) (Or.inl ⟨by rfl, ?_⟩) hHeld ?_
    rotate_left
    · intro w hSw
      (try dsimp only at hSw)
      go_simp
      (try with_reducible rfl)
    (try simp only [Act.put, List.setIfInBounds_toArray, List.set_cons_zero, List.set_cons_succ])
    refine wpAnyH_take (i := 8) (oi := { dst := some 15, op := Op.binOp BinOp.add 9 (Operand.tmp 12) (Operand.tmp 14) 9, type := 9, pos := "ref.go:45", after := #[{ on := 5, ground := Ground.data }, { on := 7, ground := Ground.data }], guard := none }) (v := ?_) rfl (by kernel_rfl) (by kernel_rfl) (by kernel_rfl) (fun _ _ _ h => h) (Or.inl ⟨by rfl, ?_⟩) hHeld ?_
    rotate_left
    · intro w hSw
      (try dsimp only at hSw)
      go_simp
      (try with_reducible rfl)
    (try simp only [Act.put, List.setIfInBounds_toArray, List.set_cons_zero, List.set_cons_succ])
    refine wpAnyH_take (i := 9) (oi := { dst := some 3, op := Op.assign (Operand.tmp 15), type := 9, pos := "ref.go:45", after := #[{ on := 8, ground := Ground.data }, { on := 0, ground := Ground.chain }, { on := 0, ground := Ground.phase }, { on := 1, ground := Ground.phase }, { on := 2, ground := Ground.phase }, { on := 3, ground := Ground.phase }, { on := 4, ground := Ground.phase }, { on := 5, ground := Ground.phase }, { on := 6, ground := Ground.phase }, { on := 7, ground := Ground.phase }, { on := 8, ground := Ground.phase }], guard := none }) (v := ?_) rfl (by kernel_rfl) (by kernel_rfl) (by kernel_rfl) (fun _ _ _ h => h) (Or.inl ⟨by rfl, ?_⟩) hHeld ?_
    rotate_left
    · intro w hSw
      (try dsimp only at hSw)
      go_simp
      (try with_reducible rfl)
    (try simp only [Act.put, List.setIfInBounds_toArray, List.set_cons_zero, List.set_cons_succ])
    refine wpAnyH_done (by kernel_rfl) ?_ _
    clear hS hSd hC HW
    have hS := hSc
    clear hSc
    generalize (w1.alloc aggsO).drew = w2 at *
    have zt : (ta ++ ⟨#[32]⟩ ++ n).size ≤ 18 := by
      rw [ba_size, ba_size]
      have : (⟨#[32]⟩ : ByteArray).size = 1 := rfl
      omega
    obtain ⟨t1, HT1⟩ : ∃ t, Hid (ta ++ ⟨#[32]⟩ ++ n = t) := ⟨_, rfl⟩
    rw [HT1.out] at zt ⊢
    have u3 : ¬ 9223372036854775807 < t1.size + 1 := by omega
    have u4 : ¬ 9223372036854775807 < t1.size + 1 + tm.size := by omega
    have u5 : ¬ 9223372036854775807 < t1.size + 1 + tm.size + 1 := by omega
    have u6 : ¬ 9223372036854775807 < t1.size + 4 := by omega
    have u7 : ¬ 9223372036854775807 < t1.size + 4 + tb.size := by omega
    by_cases lm0 : lm = 0
    · by_cases lb0 : lb = 0
      · have e2 := HM0.out.2 lm0
        have E2 := Lib.hid (((HQ2.out t1).1 e2))
        have k2 : lm = 0 := lm0
        subst k2
        clear HQ2 HM0 lm0
        have e3 := HB0.out.2 lb0
        have E3 := Lib.hid (fun t => (HQ3.out t).1 e3)
        have k3 : lb = 0 := lb0
        subst k3
        clear HQ3 HB0 lb0
        obtain ⟨c0, c1, c2, c3, d1⟩ := id hS
        go_wp2_with fail
        clear c0 c1 c2 c3 d1
        go_ret
        have dd := hS.2.2.2.2
        rw [← HG.out] at dd
        refine ⟨?_, dd⟩
        rw [HT1.out, E2.out, E3.out]
        rfl
      · have e2 := HM0.out.2 lm0
        have E2 := Lib.hid (((HQ2.out t1).1 e2))
        have k2 : lm = 0 := lm0
        subst k2
        clear HQ2 HM0 lm0
        have E3 := Lib.hid (fun t => (HQ3.out t).2 (fun e => lb0 (HB0.out.1 e)))
        have k3 : (0 : Int) < (lb : Int) := by omega
        clear HQ3 HB0 lb0
        obtain ⟨c0, c1, c2, c3, d1⟩ := id hS
        go_wp2_with fail
        clear c0 c1 c2 c3 d1
        refine (HJ.out _ (box_b hS)).mono ?_
        rintro e w4 ⟨rfl, n4⟩
        have hS4 := box_on hS n4
        clear n4
        have hS := hS4
        go_wp2_with fail
        go_ret
        have dd := hS.2.2.2.2
        rw [← HG.out] at dd
        refine ⟨?_, dd⟩
        rw [HT1.out, E2.out, E3.out]
        exact ret_str (by simp only [ByteArray.append_assoc])
    · by_cases lb0 : lb = 0
      · have E2 := Lib.hid (((HQ2.out t1).2 (fun e => lm0 (HM0.out.1 e))))
        have k2 : (0 : Int) < (lm : Int) := by omega
        clear HQ2 HM0 lm0
        have e3 := HB0.out.2 lb0
        have E3 := Lib.hid (fun t => (HQ3.out t).1 e3)
        have k3 : lb = 0 := lb0
        subst k3
        clear HQ3 HB0 lb0
        obtain ⟨c0, c1, c2, c3, d1⟩ := id hS
        go_wp2_with fail
        clear c0 c1 c2 c3 d1
        refine (HT.out _ (box_b hS)).mono ?_
        rintro e w3 ⟨rfl, n3⟩
        have hS3 := box_on hS n3
        clear n3
        obtain ⟨c0, c1, c2, c3, d1⟩ := id hS3
        obtain ⟨t2, HT2⟩ : ∃ t, Hid (t1 ++ (⟨#[123]⟩ ++ tm ++ ⟨#[125]⟩) = t) := ⟨_, rfl⟩
        have zt2 : t2.size ≤ 920 := by
          rw [← HT2.out, ba_size, ba_size, ba_size]
          have : (⟨#[123]⟩ : ByteArray).size = 1 := rfl
          have : (⟨#[125]⟩ : ByteArray).size = 1 := rfl
          omega
        have HT3 : Hid (t1 ++ ⟨#[123]⟩ ++ tm ++ ⟨#[125]⟩ = t2) := by
          show _ = _
          rw [← HT2.out]
          simp only [ByteArray.append_assoc]
        have u8 : ¬ 9223372036854775807 < t2.size + 4 := by omega
        have u9 : ¬ 9223372036854775807 < t2.size + 4 + tb.size := by omega
        clear hS
        go_wp2_with fail
        clear c0 c1 c2 c3 d1
        have hS := hS3
        clear hS3
        go_ret
        have dd := hS.2.2.2.2
        rw [← HG.out] at dd
        refine ⟨?_, dd⟩
        rw [HT1.out, E2.out, E3.out]
        exact ret_str (by simp only [ByteArray.append_assoc])
      · have E2 := Lib.hid (((HQ2.out t1).2 (fun e => lm0 (HM0.out.1 e))))
        have k2 : (0 : Int) < (lm : Int) := by omega
        clear HQ2 HM0 lm0
        have E3 := Lib.hid (fun t => (HQ3.out t).2 (fun e => lb0 (HB0.out.1 e)))
        have k3 : (0 : Int) < (lb : Int) := by omega
        clear HQ3 HB0 lb0
        obtain ⟨c0, c1, c2, c3, d1⟩ := id hS
        go_wp2_with fail
        clear c0 c1 c2 c3 d1
        refine (HT.out _ (box_b hS)).mono ?_
        rintro e w3 ⟨rfl, n3⟩
        have hS3 := box_on hS n3
        clear n3
        obtain ⟨c0, c1, c2, c3, d1⟩ := id hS3
        obtain ⟨t2, HT2⟩ : ∃ t, Hid (t1 ++ (⟨#[123]⟩ ++ tm ++ ⟨#[125]⟩) = t) := ⟨_, rfl⟩
        have zt2 : t2.size ≤ 920 := by
          rw [← HT2.out, ba_size, ba_size, ba_size]
          have : (⟨#[123]⟩ : ByteArray).size = 1 := rfl
          have : (⟨#[125]⟩ : ByteArray).size = 1 := rfl
          omega
        have HT3 : Hid (t1 ++ ⟨#[123]⟩ ++ tm ++ ⟨#[125]⟩ = t2) := by
          show _ = _
          rw [← HT2.out]
          simp only [ByteArray.append_assoc]
        have u8 : ¬ 9223372036854775807 < t2.size + 4 := by omega
        have u9 : ¬ 9223372036854775807 < t2.size + 4 + tb.size := by omega
        clear hS
        go_wp2_with fail
        clear c0 c1 c2 c3 d1
        have hS := hS3
        clear hS3
        refine (HJ.out _ (box_b hS)).mono ?_
        rintro e w4 ⟨rfl, n4⟩
        have hS4 := box_on hS n4
        clear n4
        have hS := hS4
        go_wp2_with fail
        go_ret
        have dd := hS.2.2.2.2
        rw [← HG.out] at dd
        refine ⟨?_, dd⟩
        rw [HT1.out, E2.out, E3.out]
        exact ret_str (by simp only [ByteArray.append_assoc])
end Go.Proofs.YtfohknpjlkjbbaaGreatDoor
