/- Two shards, the same: walks of the program's own, by a closure, and of the library's function that it calls. -/
import Derived.Test.YthiofbohllmfbaaZC
namespace Go.Proofs.Ythiofbohllmfbaa.Sh
open Go Go.RowKit Go.Sort Go.Lib Cl Ce Ch

/-- Two entries' boxes. -/
def DB (e1 e2 : Nat) (s1 s2 : Value) (p0 : Int) (p1 : ByteArray) (q0 : Int) (q1 : ByteArray) (w' : World) : Prop :=
  w'.cell? ⟨e1, 0, none⟩ = some (.int .i64 p0) ∧ w'.cell? ⟨e1, 1, none⟩ = some (.string p1) ∧ w'.cell? ⟨e1, 2, none⟩ = some s1 ∧ w'.cell? ⟨e2, 0, none⟩ = some (.int .i64 q0) ∧ w'.cell? ⟨e2, 1, none⟩ = some (.string q1) ∧ w'.cell? ⟨e2, 2, none⟩ = some s2
theorem db_on {e1 e2 : Nat} {s1 s2 : Value} {p0 : Int} {p1 : ByteArray} {q0 : Int} {q1 : ByteArray} {w0 w1 w2 : World} (h : DB e1 e2 s1 s2 p0 p1 q0 q1 w1 ∧ Below w0.heap.size w0 w1) (n : Below w1.heap.size w1 w2) : DB e1 e2 s1 s2 p0 p1 q0 q1 w2 ∧ Below w0.heap.size w0 w2 := by
  obtain ⟨⟨h0, h1, h2, h3, h4, h5⟩, h6⟩ := h
  exact ⟨⟨keepC n h0 (World.block_lt_of_cell? _ _ h0), keepC n h1 (World.block_lt_of_cell? _ _ h1), keepC n h2 (World.block_lt_of_cell? _ _ h2), keepC n h3 (World.block_lt_of_cell? _ _ h3), keepC n h4 (World.block_lt_of_cell? _ _ h4), keepC n h5 (World.block_lt_of_cell? _ _ h5)⟩, h6.trans (n.mono h6.size)⟩
theorem eqE_pcmp (p0 q0 : Int) (p1 q1 : ByteArray) (X Y : List Ver) : eqE ⟨p0, p1, X⟩ ⟨q0, q1, Y⟩ = (decide (pcmp p0 p1 q0 q1 = 0) && sameV X Y) := by
  rw [pcmp_zero]
  unfold eqE
  congr 1
  congr 1
  · by_cases h : p0 = q0
    · subst h; rfl
    · rw [decide_eq_false h, decide_eq_false (fun e => h e.symm)]
  · cases h : eqB p1 q1
    · cases h2 : eqB q1 p1
      · rfl
      · rw [eqB_true] at h2; subst h2; rw [eqB_self] at h; cases h
    · rw [eqB_true] at h; subst h; exact (eqB_self _).symm
set_option maxRecDepth 100000 in
set_option maxHeartbeats 4000000 in
theorem same1_any (p0 q0 : Int) (p1 q1 : ByteArray) (s1 s2 : Value) (X Y : List Ver) (w : World) (h1 : VRow w s1 X) (h2 : VRow w s2 Y) (hn : X.length ≤ 1000000) :
    Calls Try.prog 43 #[.agg #[.int .i64 p0, .string p1, s1], .agg #[.int .i64 q0, .string q1, s2]] w fun e w' => e = .returned (.bool (eqE ⟨p0, p1, X⟩ ⟨q0, q1, Y⟩)) ∧ Below w.heap.size w w' := by
  have d0 := Lib.hid (aBelow2 w (.cells #[.int .i64 p0, .string p1, s1] 59) (.cells #[.int .i64 q0, .string q1, s2] 59))
  have HC := Lib.hid (fun W (d : Below w.heap.size w W) => same_any s1 s2 X Y W (h1.on d) (h2.on d) hn)
  have o1 := vrow_one h1
  have o2 := vrow_one h2
  rw [eqE_pcmp]
  obtain ⟨G, HGE⟩ : ∃ G, Hid ((decide (pcmp p0 p1 q0 q1 = 0) && sameV X Y) = G) := ⟨_, rfl⟩
  rw [HGE.out]
  have HS0 : Hid (DB w.heap.size (w.heap.size + 1) s1 s2 p0 p1 q0 q1 ((w.alloc (.cells #[.int .i64 p0, .string p1, s1] 59)).alloc (.cells #[.int .i64 q0, .string q1, s2] 59)).drew ∧ Below ((w.alloc (.cells #[.int .i64 p0, .string p1, s1] 59)).alloc (.cells #[.int .i64 q0, .string q1, s2] 59)).heap.size ((w.alloc (.cells #[.int .i64 p0, .string p1, s1] 59)).alloc (.cells #[.int .i64 q0, .string q1, s2] 59)) ((w.alloc (.cells #[.int .i64 p0, .string p1, s1] 59)).alloc (.cells #[.int .i64 q0, .string q1, s2] 59)).drew) := ⟨⟨by simp, by simp, by simp, by simp, by simp, by simp⟩, (Below.refl _ _).drew⟩
  clear h1 h2
  go_enter Try.func43, Try.ntmps43
  go_wp2_with fail
  have hS2 := HS0.out
  clear HS0
  have hz := d0.out.size
  generalize (w.alloc (.cells #[.int .i64 p0, .string p1, s1] 59)).alloc (.cells #[.int .i64 q0, .string q1, s2] 59) = w5 at *
  generalize hy : w.heap.size + 1 = e2 at *
  generalize hx : w.heap.size = e1 at *
  have HX := Lib.hid hx
  clear hx hy
  have HON := Lib.hid (fun W W' (h : DB e1 e2 s1 s2 p0 p1 q0 q1 W ∧ Below w5.heap.size w5 W) (n : Below W.heap.size W W') => db_on h n)
  unfold DB at hS2 HON
  have HA := Lib.hid (fun B0 B1 W => against1_any B0 B1 p0 p1 q0 q1 s2 W)
  have HG := Lib.hid (fun W => against_any p0 p1 W)
  generalize pcmp p0 p1 q0 q1 = C at *
  cases T : decide (C = 0)
  · have i9 : (C == 0) = false := T
    have HV : Hid (G = false) := HGE.out.symm.trans (by rw [T]; rfl)
    clear HGE
    refine wp_region_held_drew (S := (fun w' => (w'.cell? ⟨e1, 0, none⟩ = some (.int .i64 p0) ∧ w'.cell? ⟨e1, 1, none⟩ = some (.string p1) ∧ w'.cell? ⟨e1, 2, none⟩ = some s1 ∧ w'.cell? ⟨e2, 0, none⟩ = some (.int .i64 q0) ∧ w'.cell? ⟨e2, 1, none⟩ = some (.string q1) ∧ w'.cell? ⟨e2, 2, none⟩ = some s2) ∧ Below w5.heap.size w5 w')) (by kernel_rfl) hS2 (fun hHeld => ?_)
    refine wpAnyH_take (i := 0) (oi := { dst := some 5, op := Op.fieldAddr 59 (Operand.tmp 2) 0, type := 0, pos := "shard.go:111", after := #[], guard := none }) (v := ?_) rfl (by kernel_rfl) (by kernel_rfl) (by kernel_rfl) (fun _ _ _ h => h) (Or.inl ⟨by rfl, ?_⟩) hHeld ?_
    rotate_left
    · intro w hSw
      (try dsimp only at hSw)
      go_simp
      (try with_reducible rfl)
    (try simp only [Act.put, List.setIfInBounds_toArray, List.set_cons_zero, List.set_cons_succ])
    refine wpAnyH_take (i := 1) (oi := { dst := some 6, op := Op.load 2 (Operand.tmp 5), type := 2, pos := "shard.go:111", after := #[{ on := 0, ground := Ground.data }], guard := none }) (v := ?_) rfl (by kernel_rfl) (by kernel_rfl) (by kernel_rfl) (fun _ _ _ h => h) (Or.inl ⟨by rfl, ?_⟩) hHeld ?_
    rotate_left
    · intro w hSw
      (try dsimp only at hSw)
      go_simp
      (try with_reducible rfl)
    (try simp only [Act.put, List.setIfInBounds_toArray, List.set_cons_zero, List.set_cons_succ])
    refine wpAnyH_take (i := 2) (oi := { dst := some 7, op := Op.fieldAddr 59 (Operand.tmp 2) 1, type := 0, pos := "shard.go:111", after := #[], guard := none }) (v := ?_) rfl (by kernel_rfl) (by kernel_rfl) (by kernel_rfl) (fun _ _ _ h => h) (Or.inl ⟨by rfl, ?_⟩) hHeld ?_
    rotate_left
    · intro w hSw
      (try dsimp only at hSw)
      go_simp
      (try with_reducible rfl)
    (try simp only [Act.put, List.setIfInBounds_toArray, List.set_cons_zero, List.set_cons_succ])
    refine wpAnyH_take (i := 3) (oi := { dst := some 8, op := Op.load 9 (Operand.tmp 7), type := 9, pos := "shard.go:111", after := #[{ on := 2, ground := Ground.data }], guard := none }) (v := ?_) rfl (by kernel_rfl) (by kernel_rfl) (by kernel_rfl) (fun _ _ _ h => h) (Or.inl ⟨by rfl, ?_⟩) hHeld ?_
    rotate_left
    · intro w hSw
      (try dsimp only at hSw)
      go_simp
      (try with_reducible rfl)
    (try simp only [Act.put, List.setIfInBounds_toArray, List.set_cons_zero, List.set_cons_succ])
    refine wpAnyH_take (i := 5) (oi := { dst := some 10, op := Op.load 59 (Operand.tmp 3), type := 59, pos := "shard.go:111", after := #[], guard := none }) (v := ?_) rfl (by kernel_rfl) (by kernel_rfl) (by kernel_rfl) (fun _ _ _ h => h) (Or.inl ⟨by rfl, ?_⟩) hHeld ?_
    rotate_left
    · intro w hSw
      (try dsimp only at hSw)
      go_simp
      (try with_reducible rfl)
    (try simp only [Act.put, List.setIfInBounds_toArray, List.set_cons_zero, List.set_cons_succ])
    refine wpAnyH_ready (rs := [4]) (by kernel_rfl) (by simp) ?_
    refine AllReadyH.cons (o := { dst := some 9, op := Op.call { callee := Callee.value (Operand.func 33), args := #[Operand.tmp 6, Operand.tmp 8], argTypes := #[2, 9] }, type := 69, pos := "shard.go:111", after := #[{ on := 1, ground := Ground.data }, { on := 3, ground := Ground.data }], guard := none }) rfl (fun K hK => ?_) AllReadyH.nil
    go_simp
    refine (HG.out _).mono ?_
    rintro e w6 ⟨⟨f, rfl, B0, B1, rfl, g0, g1⟩, n6⟩
    have hS3 := HON.out _ _ hS2 n6
    clear hHeld
    go_simp
    refine hK.out _ _ hS3 (fun hHeld => ?_)
    clear hK K
    (try simp only [Act.put, List.setIfInBounds_toArray, List.set_cons_zero, List.set_cons_succ])
    refine wpAnyH_ready (rs := [6]) (by kernel_rfl) (by simp) ?_
    refine AllReadyH.cons (o := { dst := some 11, op := Op.call { callee := Callee.value (Operand.tmp 9), args := #[Operand.tmp 10], argTypes := #[59] }, type := 3, pos := "shard.go:111", after := #[{ on := 4, ground := Ground.data }, { on := 5, ground := Ground.data }, { on := 4, ground := Ground.chain }], guard := none }) rfl (fun K hK => ?_) AllReadyH.nil
    go_simp
    refine (HA.out _ _ _ g0 g1).mono ?_
    rintro e w7 ⟨rfl, n7⟩
    have hS4 := HON.out _ _ hS3 n7
    clear hHeld
    go_simp
    refine hK.out _ _ hS4 (fun hHeld => ?_)
    clear hK K
    (try simp only [Act.put, List.setIfInBounds_toArray, List.set_cons_zero, List.set_cons_succ])
    refine wpAnyH_take (i := 7) (oi := { dst := some 12, op := Op.binOp BinOp.eql 3 (Operand.tmp 11) (Operand.const (Value.int IntKind.i64 0)) 3, type := 4, pos := "shard.go:111", after := #[{ on := 6, ground := Ground.data }], guard := none }) (v := ?_) rfl (by kernel_rfl) (by kernel_rfl) (by kernel_rfl) (fun _ _ _ h => h) (Or.inl ⟨by rfl, ?_⟩) hHeld ?_
    rotate_left
    · intro w hSw
      (try dsimp only at hSw)
      go_simp
      (try with_reducible rfl)
    (try simp only [Act.put, List.setIfInBounds_toArray, List.set_cons_zero, List.set_cons_succ])
    refine wpAnyH_take (i := 8) (oi := { dst := some 13, op := Op.move (Operand.tmp 12), type := 4, pos := "shard.go:111", after := #[{ on := 7, ground := Ground.data }, { on := 6, ground := Ground.chain }], guard := none }) (v := ?_) rfl (by kernel_rfl) (by kernel_rfl) (by kernel_rfl) (fun _ _ _ h => h) (Or.inl ⟨by rfl, ?_⟩) hHeld ?_
    rotate_left
    · intro w hSw
      (try dsimp only at hSw)
      go_simp
      (try with_reducible rfl)
    (try simp only [Act.put, List.setIfInBounds_toArray, List.set_cons_zero, List.set_cons_succ])
    refine wpAnyH_take (i := 9) (oi := { dst := some 14, op := Op.fieldAddr 59 (Operand.tmp 2) 2, type := 0, pos := "shard.go:111", after := #[{ on := 8, ground := Ground.guard }], guard := some (8, true) }) (v := undef) rfl (by kernel_rfl) (by kernel_rfl) (by kernel_rfl) (fun _ _ _ h => h) (Or.inr ⟨by rfl, rfl⟩) hHeld ?_
    (try simp only [Act.put, List.setIfInBounds_toArray, List.set_cons_zero, List.set_cons_succ])
    refine wpAnyH_take (i := 10) (oi := { dst := some 15, op := Op.load 57 (Operand.tmp 14), type := 57, pos := "shard.go:111", after := #[{ on := 9, ground := Ground.data }, { on := 8, ground := Ground.guard }], guard := some (8, true) }) (v := undef) rfl (by kernel_rfl) (by kernel_rfl) (by kernel_rfl) (fun _ _ _ h => h) (Or.inr ⟨by rfl, rfl⟩) hHeld ?_
    (try simp only [Act.put, List.setIfInBounds_toArray, List.set_cons_zero, List.set_cons_succ])
    refine wpAnyH_take (i := 11) (oi := { dst := some 16, op := Op.fieldAddr 59 (Operand.tmp 3) 2, type := 0, pos := "shard.go:111", after := #[{ on := 8, ground := Ground.guard }], guard := some (8, true) }) (v := undef) rfl (by kernel_rfl) (by kernel_rfl) (by kernel_rfl) (fun _ _ _ h => h) (Or.inr ⟨by rfl, rfl⟩) hHeld ?_
    (try simp only [Act.put, List.setIfInBounds_toArray, List.set_cons_zero, List.set_cons_succ])
    refine wpAnyH_take (i := 12) (oi := { dst := some 17, op := Op.load 57 (Operand.tmp 16), type := 57, pos := "shard.go:111", after := #[{ on := 11, ground := Ground.data }, { on := 8, ground := Ground.guard }], guard := some (8, true) }) (v := undef) rfl (by kernel_rfl) (by kernel_rfl) (by kernel_rfl) (fun _ _ _ h => h) (Or.inr ⟨by rfl, rfl⟩) hHeld ?_
    (try simp only [Act.put, List.setIfInBounds_toArray, List.set_cons_zero, List.set_cons_succ])
    refine wpAnyH_take (i := 13) (oi := { dst := some 18, op := Op.call { callee := Callee.value (Operand.func 44), args := #[Operand.tmp 15, Operand.tmp 17], argTypes := #[57, 57] }, type := 4, pos := "shard.go:111", after := #[{ on := 10, ground := Ground.data }, { on := 12, ground := Ground.data }, { on := 8, ground := Ground.chain }, { on := 8, ground := Ground.guard }], guard := some (8, true) }) (v := undef) rfl (by kernel_rfl) (by kernel_rfl) (by kernel_rfl) (fun _ _ _ h => h) (Or.inr ⟨by rfl, rfl⟩) hHeld ?_
    (try simp only [Act.put, List.setIfInBounds_toArray, List.set_cons_zero, List.set_cons_succ])
    refine wpAnyH_take (i := 14) (oi := { dst := some 19, op := Op.pick (Operand.tmp 13) (Operand.tmp 18) (Operand.const (Value.bool false)), type := 4, pos := "shard.go:111", after := #[{ on := 8, ground := Ground.data }, { on := 13, ground := Ground.data }], guard := none }) (v := ?_) rfl (by kernel_rfl) (by kernel_rfl) (by kernel_rfl) (fun _ _ _ h => h) (Or.inl ⟨by rfl, ?_⟩) hHeld ?_
    rotate_left
    · intro w hSw
      (try dsimp only at hSw)
      go_simp
      (try with_reducible rfl)
    (try simp only [Act.put, List.setIfInBounds_toArray, List.set_cons_zero, List.set_cons_succ])
    refine wpAnyH_take (i := 15) (oi := { dst := some 4, op := Op.assign (Operand.tmp 19), type := 4, pos := "shard.go:111", after := #[{ on := 14, ground := Ground.data }, { on := 13, ground := Ground.chain }, { on := 0, ground := Ground.phase }, { on := 1, ground := Ground.phase }, { on := 2, ground := Ground.phase }, { on := 3, ground := Ground.phase }, { on := 4, ground := Ground.phase }, { on := 5, ground := Ground.phase }, { on := 6, ground := Ground.phase }, { on := 7, ground := Ground.phase }, { on := 8, ground := Ground.phase }, { on := 9, ground := Ground.phase }, { on := 10, ground := Ground.phase }, { on := 11, ground := Ground.phase }, { on := 12, ground := Ground.phase }, { on := 13, ground := Ground.phase }, { on := 14, ground := Ground.phase }], guard := none }) (v := ?_) rfl (by kernel_rfl) (by kernel_rfl) (by kernel_rfl) (fun _ _ _ h => h) (Or.inl ⟨by rfl, ?_⟩) hHeld ?_
    rotate_left
    · intro w hSw
      (try dsimp only at hSw)
      go_simp
      (try with_reducible rfl)
    (try simp only [Act.put, List.setIfInBounds_toArray, List.set_cons_zero, List.set_cons_succ])
    refine wpAnyH_done (by kernel_rfl) ?_ _
    have DD := Lib.hid (d0.out.trans (hS4.2.mono hz))
    rename_i hHeld
    clear hS2 hS3 hS4 HON HA HG hHeld HC
    go_wp2_with fail
    have e := HX.out
    subst e
    go_ret
    exact ⟨by first | (rw [HV.out]; done) | (rw [HV.out]; rfl), DD.out⟩
  · have i9 : (C == 0) = true := T
    have HV : Hid (G = sameV X Y) := HGE.out.symm.trans (by rw [T]; rfl)
    clear HGE
    generalize sameV X Y = S at *
    go_region_held3 (fun w' => (w'.cell? ⟨e1, 0, none⟩ = some (.int .i64 p0) ∧ w'.cell? ⟨e1, 1, none⟩ = some (.string p1) ∧ w'.cell? ⟨e1, 2, none⟩ = some s1 ∧ w'.cell? ⟨e2, 0, none⟩ = some (.int .i64 q0) ∧ w'.cell? ⟨e2, 1, none⟩ = some (.string q1) ∧ w'.cell? ⟨e2, 2, none⟩ = some s2) ∧ Below w5.heap.size w5 w') (first | exact hS2 | exact hS3 | exact hS4 | exact hS5) (first
      | (go_at_call 33; refine (HG.out _).mono ?_; rintro e w6 ⟨⟨f, rfl, B0, B1, rfl, g0, g1⟩, n6⟩; have hS3 := HON.out _ _ hS2 n6)
      | (go_at_call 56; refine (HA.out _ _ _ g0 g1).mono ?_; rintro e w7 ⟨rfl, n7⟩; have hS4 := HON.out _ _ hS3 n7)
      | (go_at_call 44; refine (HC.out _ (d0.out.trans (hS4.2.mono hz))).mono ?_; rintro e w8 ⟨rfl, n8⟩; have hS5 := HON.out _ _ hS4 n8)
      | fail)
    have DD := Lib.hid (d0.out.trans (hS5.2.mono hz))
    rename_i hHeld
    clear hS2 hS3 hS4 hS5 HON HA HG hHeld HC
    go_wp2_with fail
    have e := HX.out
    subst e
    go_ret
    exact ⟨by first | (rw [HV.out]; done) | (rw [HV.out]; rfl), DD.out⟩

set_option maxRecDepth 100000 in
set_option maxHeartbeats 4000000 in
theorem equalF_any (v1 v2 : Value) (l m : List Ent) (w : World) (h1 : SRow w v1 l) (h2 : SRow w v2 m) (hn : l.length ≤ 1000000) (hv : ∀ e ∈ l, e.vs.length ≤ 1000000) :
    Calls Try.prog 42 #[v1, v2, .func (.func 43) #[] #[]] w fun e w' => e = .returned (.bool (sameS l m)) ∧ Below w.heap.size w w' := by
  obtain ⟨a1, c1, rfl, _, hl1⟩ := h1.at
  obtain ⟨a2, c2, rfl, _, hl2⟩ := h2.at
  by_cases hlen : l.length = m.length
  · have HL1 := Lib.hid hl1
    have HL2 := Lib.hid hl2
    have HV := Lib.hid (fun k (hk : k < l.length) => hv _ (List.getElem_mem hk))
    obtain ⟨F, HF⟩ : ∃ F, Hid (sameS l m = F) := ⟨_, rfl⟩
    rw [HF.out]
    have HLEN := Lib.hid hlen
    rw [← hlen]
    clear hl1 hl2 hlen h1 h2 hv
    go_enter Try.func42, Try.ntmps42
    go_wp2_with fail
    go_loopw [17] (fun i wr => ∃ k : Nat, k ≤ l.length ∧ i = .int .i64 k ∧ Hid (Below w.heap.size w wr) ∧ Hid (∀ j (h1 : j < l.length) (h2 : j < m.length), j < k → eqE l[j] m[j] = true)) (fun i _ => l.length - (intOf i).toNat)
    case atStart => exact ⟨0, Nat.zero_le _, rfl, Below.refl _ _, fun j _ _ hj => absurd hj (Nat.not_lt_zero j)⟩
    case round =>
      obtain ⟨k, hk, rfl, HD, HT⟩ := hrel
      by_cases hlt : k < l.length
      · have hlt2 : k < m.length := by have := HLEN.out; omega
        obtain ⟨b1, o1, rfl, hbb1, L1⟩ := HL1.out (ne_of_lt hlt)
        obtain ⟨b2, o2, rfl, hbb2, L2⟩ := HL2.out (ne_of_lt hlt2)
        obtain ⟨s1, e1, e2, e3, r1⟩ := (L1.on hbb1 HD.out) k hlt
        obtain ⟨s2, f1, f2, f3, r2⟩ := (L2.on hbb2 HD.out) k hlt2
        have i1 : (k : Int) < (l.length : Int) := by omega
        have i2 : (0 : Int) ≤ (k : Int) := by omega
        have HN : Hid (eqE l[k] m[k] = false → F = false) := fun h => (HF.out).symm.trans (same_notS hlt hlt2 h)
        have HY : Hid (eqE l[k] m[k] = true → ∀ j (h1 : j < l.length) (h2 : j < m.length), j < k + 1 → eqE l[j] m[j] = true) := fun h j g1 g2 g3 => by
          by_cases hj : j < k
          · exact HT.out j g1 g2 hj
          · have : j = k := by omega
            subst this; exact h
        have hlv := HV.out k hlt
        have hwz := HD.out.size
        have HC := Lib.hid (fun W (d : Below wr.heap.size wr W) => same1_any (l[k]).win (m[k]).win (l[k]).key (m[k]).key s1 s2 (l[k]).vs (m[k]).vs W (r1.on d) (r2.on d) hlv)
        have HE : Hid (eqE ⟨(l[k]).win, (l[k]).key, (l[k]).vs⟩ ⟨(m[k]).win, (m[k]).key, (m[k]).vs⟩ = eqE l[k] m[k]) := rfl
        rw [HE.out] at HC
        generalize eqE l[k] m[k] = T at *
        generalize l[k] = x at *
        generalize m[k] = y at *
        obtain ⟨p0, p1, p2⟩ := x
        obtain ⟨q0, q1, q2⟩ := y
        simp only at e1 e2 e3 f1 f2 f3 r1 r2 hlv HC
        have g1 := vrow_one r1
        have g2 := vrow_one r2
        obtain ⟨sa1, sc1, rfl, -, -⟩ := r1
        obtain ⟨sa2, sc2, rfl, -, -⟩ := r2
        have DA := Lib.hid (aBelow2 wr (.cells #[.int .i64 p0, .string p1, .slice sa1 p2.length sc1] 59) (.cells #[.int .i64 q0, .string q1, .slice sa2 q2.length sc2] 59))
        have f1' := cell_kept1 f1 (.cells #[.int .i64 p0, .string p1, .slice sa1 p2.length sc1] 59)
        have f2' := cell_kept1 f2 (.cells #[.int .i64 p0, .string p1, .slice sa1 p2.length sc1] 59)
        have f3' := cell_kept1 f3 (.cells #[.int .i64 p0, .string p1, .slice sa1 p2.length sc1] 59)
        clear L1 L2 HL1 HL2 HT HE f1 f2 f3
        cases T
        · have HM := Lib.hid (HN.out rfl)
          clear HN HY
          go_wp2_with (go_at_call 43; refine (HC.out _ DA.out).mono ?_; rintro e w5 ⟨rfl, n5⟩)
          go_ret
          exact ⟨by first | (rw [HM.out]; done) | (rw [HM.out]; rfl), HD.out.trans ((DA.out.trans (n5.mono DA.out.size)).mono hwz)⟩
        · have HM := Lib.hid (HY.out rfl)
          clear HN HY
          go_wp2_with (go_at_call 43; refine (HC.out _ DA.out).mono ?_; rintro e w5 ⟨rfl, n5⟩)
          exact ⟨⟨k + 1, by omega, by go_num, HD.out.trans ((DA.out.trans (n5.mono DA.out.size)).mono hwz), HM⟩, by simp [intOf]; omega⟩
      · have HM := Lib.hid ((HF.out).symm.trans (same_allS HLEN.out (fun j g1 g2 => HT.out j g1 g2 (by omega))))
        have i1 : ¬ (k : Int) < (l.length : Int) := by omega
        go_wp2_with fail
        go_ret
        exact ⟨by first | (rw [HM.out]; done) | (rw [HM.out]; rfl), HD.out⟩
  · rw [same_lenS hlen]
    have hlz : ¬ (l.length : Int) = (m.length : Int) := by omega
    have hlz2 : ((l.length : Int) == (m.length : Int)) = false := by simp; omega
    clear hl1 hl2 h1 h2
    go_enter Try.func42, Try.ntmps42
    go_wp2_with fail
    go_ret
    exact ⟨rfl, Below.refl _ _⟩

set_option maxRecDepth 100000 in
set_option maxHeartbeats 4000000 in
theorem same_anyS (v1 v2 : Value) (l m : List Ent) (w : World) (h1 : SRow w v1 l) (h2 : SRow w v2 m) (hn : l.length ≤ 1000000) (hv : ∀ e ∈ l, e.vs.length ≤ 1000000) :
    Calls Try.prog 23 #[.agg #[v1], .agg #[v2]] w fun e w' => e = .returned (.bool (sameS l m)) ∧ Below w.heap.size w w' := by
  have HC := Lib.hid (fun W (d : Below w.heap.size w W) => equalF_any v1 v2 l m W (h1.on d) (h2.on d) hn hv)
  obtain ⟨a1, c1, rfl, _, hl1⟩ := h1.at
  obtain ⟨a2, c2, rfl, _, hl2⟩ := h2.at
  have d0 := Lib.hid (aBelow2 w (.cells #[.slice a1 l.length c1] 24) (.cells #[.slice a2 m.length c2] 24))
  clear hl1 hl2 h1 h2
  go_enter Try.func23, Try.ntmps23
  go_wp2_with (go_at_call 42; refine (HC.out _ d0.out).mono ?_; rintro e w5 ⟨rfl, n5⟩)
  go_ret
  exact ⟨rfl, d0.out.trans (n5.mono d0.out.size)⟩
end Go.Proofs.Ythiofbohllmfbaa.Sh
