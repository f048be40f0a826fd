/- Walk over Own14: the law SeqRises. -/
import Derived.Test.YtmgfgfkkhcibcaaM15
namespace Go.Proofs.Ytmgfgfkkhcibcaa.Se
open Go Go.RowKit

def PreOk (last : Int) (L : List (List Wr)) (k : Nat) : Prop := ∀ j q, j < k → L[j]? = some q → rightFrom 0 q = true ∧ ∀ x ∈ q, x.st ≤ last
theorem pre_zero (last : Int) (L : List (List Wr)) : PreOk last L 0 := fun _ _ h => absurd h (Nat.not_lt_zero _)
theorem pre_next {last : Int} {L : List (List Wr)} {k : Nat} (h : PreOk last L k) (hk : k < L.length) (h1 : rightFrom 0 L[k] = true) (h2 : ∀ x ∈ L[k], x.st ≤ last) : PreOk last L (k + 1) := by
  intro j q hj hq
  rcases Nat.lt_or_ge j k with e | e
  · exact h j q e hq
  · have : j = k := by omega
    subst this
    rw [List.getElem?_eq_getElem hk] at hq; injection hq with hq
    subst hq
    exact ⟨h1, h2⟩
theorem pre_all {last : Int} {L : List (List Wr)} {k : Nat} (h : PreOk last L k) (hk : ¬ k < L.length) : Good last L := by
  intro q hq
  obtain ⟨j, hj, e⟩ := List.getElem_of_mem hq
  exact h j q (by omega) (by rw [List.getElem?_eq_getElem hj, e])

theorem qC_cells {w : World} {rs : List (Value × List Wr)} (h : ∀ r ∈ rs, WRow w r.1 r.2) : ∀ u ∈ flatG qC rs, u.oneCell' = true := by
  intro u hu
  simp only [flatG, List.mem_flatMap] at hu
  obtain ⟨r, hr, hx⟩ := hu
  simp [qC] at hx
  obtain ⟨a, c, e, -, -⟩ := h r hr
  rw [hx, e]
  rfl
theorem stable_ok {last : Int} {L : List (List Wr)} (h : Good last L) (h2 : ok64 last) : ok64 (stable last L) := by
  unfold stable
  cases hl : least L with
  | none => exact h2
  | some m =>
    rcases fold_in L none m hl with e | ⟨q, hq, y, s, e, hy⟩
    · cases e
    · obtain ⟨g1, g2⟩ := h q hq
      rw [e] at g1
      have h3 := (rightFrom_cons.1 g1).1
      have h4 := (rightFrom_cons.1 g1).2.1
      show ok64 (m - 1)
      unfold ok64
      omega
theorem qown_at {w : World} {P : Nat} {rs : List (Value × List Wr)} {L : List (List Wr)} (h : QOwn w P rs) (hm : rs.map (·.2) = L) {i : Nat} (hi : i < rs.length) : ∃ a c, ∃ hiL : i < L.length, w.cell? ⟨P, i, none⟩ = some (.slice a (L[i]).length c) ∧ WRow w (.slice a (L[i]).length c) L[i] ∧ w.frozen? ⟨P, i, none⟩ = false := by
  subst hm
  obtain ⟨h1, h2⟩ := h.1 i hi
  have h3 := h.2 _ (List.getElem_mem hi)
  obtain ⟨a, c, e, hc, hl⟩ := h3
  have hL : i < (rs.map (·.2)).length := by simpa using hi
  have hg : (rs.map (·.2))[i] = (rs[i]).2 := by rw [List.getElem_map]
  refine ⟨a, c, hL, ?_, ?_, h2⟩
  · rw [hg, h1, e]
  · rw [hg]; exact ⟨a, c, rfl, hc, hl⟩
set_option maxRecDepth 100000 in
theorem infoQ : ∃ i, Try.prog.info? 22 = some i ∧ i.zero = some (.slice none 0 0) ∧ i.size = 1 ∧ i.bytes = 24 := ⟨_, rfl, rfl, rfl, rfl⟩
set_option maxRecDepth 100000 in
set_option maxHeartbeats 4000000 in
theorem rises_walk (O : Own14) (HA0 : ∀ w : World, Calls Try.prog 7 #[] w fun e w' => e = .returned (.bool true) ∧ Below w.heap.size w w') (last : Int) (v : Value) (L : List (List Wr)) (w : World) (h : LRow w v L) (k1 : ∀ q ∈ L, ∀ x ∈ q, okW x) (k2 : ok64 last) :
    Calls Try.prog 6 #[.int .i64 last, v] w fun e w' => e = .returned (.bool true) ∧ Below w.heap.size w w' := by
  have HAl := Lib.hid HA0
  have H := Lib.hid h
  have HG := Lib.hid (fun W (d : Below w.heap.size w W) => refGreat_any v L W (h.on d))
  cases hg : greatL L
  rotate_left
  · rw [hg] at HG
    obtain ⟨a, c, rfl, -, -⟩ := h.open
    clear h k1
    go_enter Try.func6, Try.ntmps6
    go_wp2_with fail
    refine (HAl.out _).mono ?_
    rintro e w1 ⟨rfl, n1⟩
    go_wp2_with fail
    refine (HG.out _ n1).mono ?_
    rintro e w2 ⟨rfl, rfl⟩
    go_wp2_with fail
    go_ret
    exact ⟨rfl, n1⟩
  · rw [hg] at HG
    obtain ⟨hl, hq⟩ := greatL_not hg
    have HQ := Lib.hid (fun k (hk : k < L.length) => hq _ (List.getElem_mem hk))
    have HO := Lib.hid (And.intro hq k1)
    obtain ⟨a, c, rfl, hc, hat⟩ := h.open
    have HL := Lib.hid hat
    clear h k1 hq hat
    go_enter Try.func6, Try.ntmps6
    go_wp2_with fail
    refine (HAl.out _).mono ?_
    rintro e w1 ⟨rfl, n1⟩
    go_wp2_with fail
    refine (HG.out _ n1).mono ?_
    rintro e w2 ⟨rfl, rfl⟩
    have D1 := Lib.hid n1
    clear n1 HG HAl
    go_wp2_with fail
    go_loopw [5] (fun i wr => ∃ k : Nat, k ≤ L.length ∧ i = .int .i64 k ∧ Hid (PreOk last L k) ∧ Hid (Below w.heap.size w wr)) (fun i _ => L.length - (intOf i).toNat)
    case atStart => exact ⟨0, Nat.zero_le _, rfl, Lib.hid (pre_zero _ _), D1⟩
    case round =>
      obtain ⟨k, hk, rfl, HT, HD⟩ := hrel
      by_cases hlt : k < L.length
      · obtain ⟨b, o, s, rfl, hb, hs, hw⟩ := (HL.out.on HD.out) k hlt
        have hql := HQ.out k hlt
        have HNX := Lib.hid (fun h1 h2 => pre_next HT.out hlt h1 h2)
        have i1 : (k : Int) < (L.length : Int) := by omega
        have i2 : (0 : Int) ≤ (k : Int) := by omega
        have HR := Lib.hid (fun W (d : Below wr.heap.size wr W) => refRight_any s L[k] W (hw.on d) (by omega))
        obtain ⟨a2, c2, rfl, hc2, hw2⟩ := hw
        generalize L[k] = q at *
        have HR := Lib.hid (HR.out wr.drew (Below.refl _ _).drew)
        clear HQ HT
        cases hr : rightQ q
        · rw [hr] at HR
          have hS : wr.drew.cell? ⟨b, o + k, none⟩ = some (.slice a2 q.length c2) ∧ Below wr.heap.size wr wr.drew := ⟨hs, (Below.refl _ _).drew⟩
          have HSN := Lib.hid (fun (w3 : World) (n : Below wr.drew.heap.size wr.drew w3) => show w3.cell? ⟨b, o + k, none⟩ = some (.slice a2 q.length c2) ∧ Below wr.heap.size wr w3 from ⟨keepC n hs hb, (Below.refl _ _).drew.trans n⟩)
          clear HNX HL hw2 HO hs
          go_wp2_with fail
          refine wp_region_held_drew (S := fun w' => w'.cell? ⟨b, o + k, none⟩ = some (.slice a2 q.length c2) ∧ Below wr.heap.size wr w') (by kernel_rfl) hS (fun hHeld => ?_)
          refine wpAnyH_take (i := 0) (oi := { dst := some 25, op := Op.move (Operand.tmp 1), type := 34, pos := "law.go:81", after := #[], guard := none }) (v := ?_) rfl (by kernel_rfl) (by kernel_rfl) (by kernel_rfl) (fun _ _ _ h => h) (Or.inl ⟨by rfl, ?_⟩) hHeld ?_
          rotate_left
          · intro w hSw
            (try dsimp only at hSw)
            go_simp
            (try with_reducible rfl)
          (try simp only [Act.put, List.setIfInBounds_toArray, List.set_cons_zero, List.set_cons_succ])
          refine wpAnyH_take (i := 1) (oi := { dst := some 26, op := Op.move (Operand.tmp 5), type := 3, pos := "law.go:81", after := #[], guard := none }) (v := ?_) rfl (by kernel_rfl) (by kernel_rfl) (by kernel_rfl) (fun _ _ _ h => h) (Or.inl ⟨by rfl, ?_⟩) hHeld ?_
          rotate_left
          · intro w hSw
            (try dsimp only at hSw)
            go_simp
            (try with_reducible rfl)
          (try simp only [Act.put, List.setIfInBounds_toArray, List.set_cons_zero, List.set_cons_succ])
          refine wpAnyH_take (i := 2) (oi := { dst := some 27, op := Op.indexAddr 34 (Operand.tmp 25) (Operand.tmp 26), type := 0, pos := "law.go:81", after := #[{ on := 0, ground := Ground.data }, { on := 1, ground := Ground.data }], guard := none }) (v := ?_) rfl (by kernel_rfl) (by kernel_rfl) (by kernel_rfl) (fun _ _ _ h => h) (Or.inl ⟨by rfl, ?_⟩) hHeld ?_
          rotate_left
          · intro w hSw
            (try dsimp only at hSw)
            go_simp
            (try with_reducible rfl)
          (try simp only [Act.put, List.setIfInBounds_toArray, List.set_cons_zero, List.set_cons_succ])
          refine wpAnyH_take (i := 3) (oi := { dst := some 28, op := Op.load 22 (Operand.tmp 27), type := 22, pos := "law.go:81", after := #[{ on := 2, ground := Ground.data }], guard := none }) (v := ?_) rfl (by kernel_rfl) (by kernel_rfl) (by kernel_rfl) (fun _ _ _ h => h) (Or.inl ⟨by rfl, ?_⟩) hHeld ?_
          rotate_left
          · intro w hSw
            (try dsimp only at hSw)
            go_simp
            (try with_reducible rfl)
          (try simp only [Act.put, List.setIfInBounds_toArray, List.set_cons_zero, List.set_cons_succ])
          refine wpAnyH_ready (rs := [4]) (by kernel_rfl) (by simp) ?_
          refine AllReadyH.cons (o := { dst := some 29, op := Op.call { callee := Callee.value (Operand.func 14), args := #[Operand.tmp 28], argTypes := #[22] }, type := 4, pos := "law.go:81", after := #[{ on := 3, ground := Ground.data }], guard := none }) rfl (fun K hK => ?_) AllReadyH.nil
          go_simp
          refine HR.out.mono ?_
          rintro e w3 ⟨rfl, n3⟩
          have hS1 := HSN.out _ n3
          clear hHeld
          go_simp
          refine hK.out _ _ hS1 (fun hHeld => ?_)
          clear hK K
          (try simp only [Act.put, List.setIfInBounds_toArray, List.set_cons_zero, List.set_cons_succ])
          refine wpAnyH_take (i := 5) (oi := { dst := some 30, op := Op.unOp UnOp.not 4 (Operand.tmp 29), type := 4, pos := "law.go:81", after := #[{ on := 4, ground := Ground.data }], guard := none }) (v := ?_) rfl (by kernel_rfl) (by kernel_rfl) (by kernel_rfl) (fun _ _ _ h => h) (Or.inl ⟨by rfl, ?_⟩) hHeld ?_
          rotate_left
          · intro w hSw
            (try dsimp only at hSw)
            go_simp
            (try with_reducible rfl)
          (try simp only [Act.put, List.setIfInBounds_toArray, List.set_cons_zero, List.set_cons_succ])
          refine wpAnyH_take (i := 6) (oi := { dst := some 31, op := Op.move (Operand.tmp 30), type := 4, pos := "law.go:81", after := #[{ on := 5, ground := Ground.data }, { on := 4, ground := Ground.chain }], guard := none }) (v := ?_) rfl (by kernel_rfl) (by kernel_rfl) (by kernel_rfl) (fun _ _ _ h => h) (Or.inl ⟨by rfl, ?_⟩) hHeld ?_
          rotate_left
          · intro w hSw
            (try dsimp only at hSw)
            go_simp
            (try with_reducible rfl)
          (try simp only [Act.put, List.setIfInBounds_toArray, List.set_cons_zero, List.set_cons_succ])
          refine wpAnyH_take (i := 7) (oi := { dst := some 32, op := Op.move (Operand.tmp 1), type := 34, pos := "law.go:81", after := #[{ on := 6, ground := Ground.guard }], guard := some (6, false) }) (v := undef) rfl (by kernel_rfl) (by kernel_rfl) (by kernel_rfl) (fun _ _ _ h => h) (Or.inr ⟨by rfl, rfl⟩) hHeld ?_
          (try simp only [Act.put, List.setIfInBounds_toArray, List.set_cons_zero, List.set_cons_succ])
          refine wpAnyH_take (i := 8) (oi := { dst := some 33, op := Op.move (Operand.tmp 5), type := 3, pos := "law.go:81", after := #[{ on := 6, ground := Ground.guard }], guard := some (6, false) }) (v := undef) rfl (by kernel_rfl) (by kernel_rfl) (by kernel_rfl) (fun _ _ _ h => h) (Or.inr ⟨by rfl, rfl⟩) hHeld ?_
          (try simp only [Act.put, List.setIfInBounds_toArray, List.set_cons_zero, List.set_cons_succ])
          refine wpAnyH_take (i := 9) (oi := { dst := some 34, op := Op.indexAddr 34 (Operand.tmp 32) (Operand.tmp 33), type := 0, pos := "law.go:81", after := #[{ on := 7, ground := Ground.data }, { on := 8, ground := Ground.data }, { on := 6, ground := Ground.guard }], guard := some (6, false) }) (v := undef) rfl (by kernel_rfl) (by kernel_rfl) (by kernel_rfl) (fun _ _ _ h => h) (Or.inr ⟨by rfl, rfl⟩) hHeld ?_
          (try simp only [Act.put, List.setIfInBounds_toArray, List.set_cons_zero, List.set_cons_succ])
          refine wpAnyH_take (i := 10) (oi := { dst := some 35, op := Op.load 22 (Operand.tmp 34), type := 22, pos := "law.go:81", after := #[{ on := 9, ground := Ground.data }, { on := 6, ground := Ground.guard }], guard := some (6, false) }) (v := undef) rfl (by kernel_rfl) (by kernel_rfl) (by kernel_rfl) (fun _ _ _ h => h) (Or.inr ⟨by rfl, rfl⟩) hHeld ?_
          (try simp only [Act.put, List.setIfInBounds_toArray, List.set_cons_zero, List.set_cons_succ])
          refine wpAnyH_take (i := 11) (oi := { dst := some 36, op := Op.call { callee := Callee.builtin Builtin.len, args := #[Operand.tmp 35], argTypes := #[22] }, type := 3, pos := "law.go:81", after := #[{ on := 10, ground := Ground.data }, { on := 6, ground := Ground.guard }], guard := some (6, false) }) (v := undef) rfl (by kernel_rfl) (by kernel_rfl) (by kernel_rfl) (fun _ _ _ h => h) (Or.inr ⟨by rfl, rfl⟩) hHeld ?_
          (try simp only [Act.put, List.setIfInBounds_toArray, List.set_cons_zero, List.set_cons_succ])
          refine wpAnyH_take (i := 12) (oi := { dst := some 37, op := Op.binOp BinOp.gtr 3 (Operand.tmp 36) (Operand.const (Value.int IntKind.i64 0)) 3, type := 4, pos := "law.go:81", after := #[{ on := 11, ground := Ground.data }, { on := 6, ground := Ground.guard }], guard := some (6, false) }) (v := undef) rfl (by kernel_rfl) (by kernel_rfl) (by kernel_rfl) (fun _ _ _ h => h) (Or.inr ⟨by rfl, rfl⟩) hHeld ?_
          (try simp only [Act.put, List.setIfInBounds_toArray, List.set_cons_zero, List.set_cons_succ])
          refine wpAnyH_take (i := 13) (oi := { dst := some 38, op := Op.move (Operand.tmp 37), type := 4, pos := "law.go:81", after := #[{ on := 12, ground := Ground.data }, { on := 6, ground := Ground.chain }, { on := 6, ground := Ground.guard }], guard := some (6, false) }) (v := undef) rfl (by kernel_rfl) (by kernel_rfl) (by kernel_rfl) (fun _ _ _ h => h) (Or.inr ⟨by rfl, rfl⟩) hHeld ?_
          (try simp only [Act.put, List.setIfInBounds_toArray, List.set_cons_zero, List.set_cons_succ])
          refine wpAnyH_take (i := 14) (oi := { dst := some 39, op := Op.move (Operand.tmp 1), type := 34, pos := "law.go:81", after := #[{ on := 13, ground := Ground.guard }], guard := some (13, true) }) (v := undef) rfl (by kernel_rfl) (by kernel_rfl) (by kernel_rfl) (fun _ _ _ h => h) (Or.inr ⟨by rfl, rfl⟩) hHeld ?_
          (try simp only [Act.put, List.setIfInBounds_toArray, List.set_cons_zero, List.set_cons_succ])
          refine wpAnyH_take (i := 15) (oi := { dst := some 40, op := Op.move (Operand.tmp 5), type := 3, pos := "law.go:81", after := #[{ on := 13, ground := Ground.guard }], guard := some (13, true) }) (v := undef) rfl (by kernel_rfl) (by kernel_rfl) (by kernel_rfl) (fun _ _ _ h => h) (Or.inr ⟨by rfl, rfl⟩) hHeld ?_
          (try simp only [Act.put, List.setIfInBounds_toArray, List.set_cons_zero, List.set_cons_succ])
          refine wpAnyH_take (i := 16) (oi := { dst := some 41, op := Op.indexAddr 34 (Operand.tmp 39) (Operand.tmp 40), type := 0, pos := "law.go:81", after := #[{ on := 14, ground := Ground.data }, { on := 15, ground := Ground.data }, { on := 13, ground := Ground.guard }], guard := some (13, true) }) (v := undef) rfl (by kernel_rfl) (by kernel_rfl) (by kernel_rfl) (fun _ _ _ h => h) (Or.inr ⟨by rfl, rfl⟩) hHeld ?_
          (try simp only [Act.put, List.setIfInBounds_toArray, List.set_cons_zero, List.set_cons_succ])
          refine wpAnyH_take (i := 17) (oi := { dst := some 42, op := Op.load 22 (Operand.tmp 41), type := 22, pos := "law.go:81", after := #[{ on := 16, ground := Ground.data }, { on := 13, ground := Ground.guard }], guard := some (13, true) }) (v := undef) rfl (by kernel_rfl) (by kernel_rfl) (by kernel_rfl) (fun _ _ _ h => h) (Or.inr ⟨by rfl, rfl⟩) hHeld ?_
          (try simp only [Act.put, List.setIfInBounds_toArray, List.set_cons_zero, List.set_cons_succ])
          refine wpAnyH_take (i := 18) (oi := { dst := some 43, op := Op.move (Operand.tmp 1), type := 34, pos := "law.go:81", after := #[{ on := 13, ground := Ground.guard }], guard := some (13, true) }) (v := undef) rfl (by kernel_rfl) (by kernel_rfl) (by kernel_rfl) (fun _ _ _ h => h) (Or.inr ⟨by rfl, rfl⟩) hHeld ?_
          (try simp only [Act.put, List.setIfInBounds_toArray, List.set_cons_zero, List.set_cons_succ])
          refine wpAnyH_take (i := 19) (oi := { dst := some 44, op := Op.move (Operand.tmp 5), type := 3, pos := "law.go:81", after := #[{ on := 13, ground := Ground.guard }], guard := some (13, true) }) (v := undef) rfl (by kernel_rfl) (by kernel_rfl) (by kernel_rfl) (fun _ _ _ h => h) (Or.inr ⟨by rfl, rfl⟩) hHeld ?_
          (try simp only [Act.put, List.setIfInBounds_toArray, List.set_cons_zero, List.set_cons_succ])
          refine wpAnyH_take (i := 20) (oi := { dst := some 45, op := Op.indexAddr 34 (Operand.tmp 43) (Operand.tmp 44), type := 0, pos := "law.go:81", after := #[{ on := 18, ground := Ground.data }, { on := 19, ground := Ground.data }, { on := 13, ground := Ground.guard }], guard := some (13, true) }) (v := undef) rfl (by kernel_rfl) (by kernel_rfl) (by kernel_rfl) (fun _ _ _ h => h) (Or.inr ⟨by rfl, rfl⟩) hHeld ?_
          (try simp only [Act.put, List.setIfInBounds_toArray, List.set_cons_zero, List.set_cons_succ])
          refine wpAnyH_take (i := 21) (oi := { dst := some 46, op := Op.load 22 (Operand.tmp 45), type := 22, pos := "law.go:81", after := #[{ on := 20, ground := Ground.data }, { on := 13, ground := Ground.guard }], guard := some (13, true) }) (v := undef) rfl (by kernel_rfl) (by kernel_rfl) (by kernel_rfl) (fun _ _ _ h => h) (Or.inr ⟨by rfl, rfl⟩) hHeld ?_
          (try simp only [Act.put, List.setIfInBounds_toArray, List.set_cons_zero, List.set_cons_succ])
          refine wpAnyH_take (i := 22) (oi := { dst := some 47, op := Op.call { callee := Callee.builtin Builtin.len, args := #[Operand.tmp 46], argTypes := #[22] }, type := 3, pos := "law.go:81", after := #[{ on := 21, ground := Ground.data }, { on := 13, ground := Ground.guard }], guard := some (13, true) }) (v := undef) rfl (by kernel_rfl) (by kernel_rfl) (by kernel_rfl) (fun _ _ _ h => h) (Or.inr ⟨by rfl, rfl⟩) hHeld ?_
          (try simp only [Act.put, List.setIfInBounds_toArray, List.set_cons_zero, List.set_cons_succ])
          refine wpAnyH_take (i := 23) (oi := { dst := some 48, op := Op.binOp BinOp.sub 3 (Operand.tmp 47) (Operand.const (Value.int IntKind.i64 1)) 3, type := 3, pos := "law.go:81", after := #[{ on := 22, ground := Ground.data }, { on := 13, ground := Ground.guard }], guard := some (13, true) }) (v := undef) rfl (by kernel_rfl) (by kernel_rfl) (by kernel_rfl) (fun _ _ _ h => h) (Or.inr ⟨by rfl, rfl⟩) hHeld ?_
          (try simp only [Act.put, List.setIfInBounds_toArray, List.set_cons_zero, List.set_cons_succ])
          refine wpAnyH_take (i := 24) (oi := { dst := some 49, op := Op.indexAddr 22 (Operand.tmp 42) (Operand.tmp 48), type := 0, pos := "law.go:81", after := #[{ on := 17, ground := Ground.data }, { on := 23, ground := Ground.data }, { on := 13, ground := Ground.guard }], guard := some (13, true) }) (v := undef) rfl (by kernel_rfl) (by kernel_rfl) (by kernel_rfl) (fun _ _ _ h => h) (Or.inr ⟨by rfl, rfl⟩) hHeld ?_
          (try simp only [Act.put, List.setIfInBounds_toArray, List.set_cons_zero, List.set_cons_succ])
          refine wpAnyH_take (i := 25) (oi := { dst := some 50, op := Op.fieldAddr 29 (Operand.tmp 49) 0, type := 0, pos := "law.go:81", after := #[{ on := 24, ground := Ground.data }, { on := 13, ground := Ground.guard }], guard := some (13, true) }) (v := undef) rfl (by kernel_rfl) (by kernel_rfl) (by kernel_rfl) (fun _ _ _ h => h) (Or.inr ⟨by rfl, rfl⟩) hHeld ?_
          (try simp only [Act.put, List.setIfInBounds_toArray, List.set_cons_zero, List.set_cons_succ])
          refine wpAnyH_take (i := 26) (oi := { dst := some 51, op := Op.load 2 (Operand.tmp 50), type := 2, pos := "law.go:81", after := #[{ on := 25, ground := Ground.data }, { on := 13, ground := Ground.guard }], guard := some (13, true) }) (v := undef) rfl (by kernel_rfl) (by kernel_rfl) (by kernel_rfl) (fun _ _ _ h => h) (Or.inr ⟨by rfl, rfl⟩) hHeld ?_
          (try simp only [Act.put, List.setIfInBounds_toArray, List.set_cons_zero, List.set_cons_succ])
          refine wpAnyH_take (i := 27) (oi := { dst := some 52, op := Op.move (Operand.tmp 0), type := 2, pos := "law.go:81", after := #[{ on := 13, ground := Ground.guard }], guard := some (13, true) }) (v := undef) rfl (by kernel_rfl) (by kernel_rfl) (by kernel_rfl) (fun _ _ _ h => h) (Or.inr ⟨by rfl, rfl⟩) hHeld ?_
          (try simp only [Act.put, List.setIfInBounds_toArray, List.set_cons_zero, List.set_cons_succ])
          refine wpAnyH_take (i := 28) (oi := { dst := some 53, op := Op.binOp BinOp.gtr 2 (Operand.tmp 51) (Operand.tmp 52) 2, type := 4, pos := "law.go:81", after := #[{ on := 26, ground := Ground.data }, { on := 27, ground := Ground.data }, { on := 13, ground := Ground.guard }], guard := some (13, true) }) (v := undef) rfl (by kernel_rfl) (by kernel_rfl) (by kernel_rfl) (fun _ _ _ h => h) (Or.inr ⟨by rfl, rfl⟩) hHeld ?_
          (try simp only [Act.put, List.setIfInBounds_toArray, List.set_cons_zero, List.set_cons_succ])
          refine wpAnyH_take (i := 29) (oi := { dst := some 54, op := Op.pick (Operand.tmp 38) (Operand.tmp 53) (Operand.const (Value.bool false)), type := 4, pos := "law.go:81", after := #[{ on := 13, ground := Ground.data }, { on := 28, ground := Ground.data }, { on := 6, ground := Ground.guard }], guard := some (6, false) }) (v := undef) rfl (by kernel_rfl) (by kernel_rfl) (by kernel_rfl) (fun _ _ _ h => h) (Or.inr ⟨by rfl, rfl⟩) hHeld ?_
          (try simp only [Act.put, List.setIfInBounds_toArray, List.set_cons_zero, List.set_cons_succ])
          refine wpAnyH_take (i := 30) (oi := { dst := some 55, op := Op.pick (Operand.tmp 31) (Operand.const (Value.bool true)) (Operand.tmp 54), type := 4, pos := "law.go:81", after := #[{ on := 6, ground := Ground.data }, { on := 29, ground := Ground.data }], guard := none }) (v := ?_) rfl (by kernel_rfl) (by kernel_rfl) (by kernel_rfl) (fun _ _ _ h => h) (Or.inl ⟨by rfl, ?_⟩) hHeld ?_
          rotate_left
          · intro w hSw
            (try dsimp only at hSw)
            go_simp
            (try with_reducible rfl)
          (try simp only [Act.put, List.setIfInBounds_toArray, List.set_cons_zero, List.set_cons_succ])
          refine wpAnyH_done (by kernel_rfl) ?_ _
          go_wp2_with fail
          go_ret
          exact ⟨rfl, HD.out.trans (hS1.2.mono HD.out.size)⟩
        · rw [hr] at HR
          by_cases h0 : 0 < q.length
          · have hLL := hw2 (List.length_pos_iff.1 h0)
            obtain ⟨b2, o2, rfl, hb2, hL⟩ := hLL
            obtain ⟨y0, -, -, -⟩ := w_at hL (q.length - 1) (by omega)
            obtain ⟨M, hM⟩ : ∃ M, q.length - 1 = M := ⟨_, rfl⟩
            have HRL := Lib.hid (fun (hle : (q[q.length - 1]'(by omega)).st ≤ last) => HNX.out hr (right_last hr (fun _ => hle)))
            obtain ⟨ys, hys⟩ : ∃ ys, (q[q.length - 1]'(by omega)).st = ys := ⟨_, rfl⟩
            rw [hys] at y0 HRL
            rw [hM] at y0
            obtain ⟨N, hN⟩ : ∃ N, q.length = N := ⟨_, rfl⟩
            have j1 : 0 < N := by omega
            have j2 : M + 1 = N := by omega
            have j3 : (N : Int) - 1 = (M : Int) := by omega
            have j4 : (0 : Int) < (N : Int) := by omega
            have j5 : (M : Int) < (N : Int) := by omega
            have j6 : M < N := by omega
            have j7 : IntKind.i64.wrap (M : Int) = (M : Int) := by rw [IntKind.wrap_i64]; omega
            rw [hN] at hs HR hql
            have hS : wr.drew.cell? ⟨b, o + k, none⟩ = some (.slice (some ⟨b2, o2, none⟩) N c2) ∧ wr.drew.cell? ⟨b2, o2 + M * 4, none⟩ = some (.int .i64 ys) ∧ Below wr.heap.size wr wr.drew := ⟨hs, y0, (Below.refl _ _).drew⟩
            have HSN := Lib.hid (fun (w3 : World) (n : Below wr.drew.heap.size wr.drew w3) => show w3.cell? ⟨b, o + k, none⟩ = some (.slice (some ⟨b2, o2, none⟩) N c2) ∧ w3.cell? ⟨b2, o2 + M * 4, none⟩ = some (.int .i64 ys) ∧ Below wr.heap.size wr w3 from ⟨keepC n hs hb, keepC n y0 hb2, (Below.refl _ _).drew.trans n⟩)
            clear HNX HL hw2 HO hs hL y0 hM hN hys h0
            by_cases hy : last < ys
            · clear HRL
              go_wp2_with fail
              refine wp_region_held_drew (S := fun w' => w'.cell? ⟨b, o + k, none⟩ = some (.slice (some ⟨b2, o2, none⟩) N c2) ∧ w'.cell? ⟨b2, o2 + M * 4, none⟩ = some (.int .i64 ys) ∧ Below wr.heap.size wr w') (by kernel_rfl) hS (fun hHeld => ?_)
              refine wpAnyH_take (i := 0) (oi := { dst := some 25, op := Op.move (Operand.tmp 1), type := 34, pos := "law.go:81", after := #[], guard := none }) (v := ?_) rfl (by kernel_rfl) (by kernel_rfl) (by kernel_rfl) (fun _ _ _ h => h) (Or.inl ⟨by rfl, ?_⟩) hHeld ?_
              rotate_left
              · intro w hSw
                (try dsimp only at hSw)
                go_simp
                (try with_reducible rfl)
              (try simp only [Act.put, List.setIfInBounds_toArray, List.set_cons_zero, List.set_cons_succ])
              refine wpAnyH_take (i := 1) (oi := { dst := some 26, op := Op.move (Operand.tmp 5), type := 3, pos := "law.go:81", after := #[], guard := none }) (v := ?_) rfl (by kernel_rfl) (by kernel_rfl) (by kernel_rfl) (fun _ _ _ h => h) (Or.inl ⟨by rfl, ?_⟩) hHeld ?_
              rotate_left
              · intro w hSw
                (try dsimp only at hSw)
                go_simp
                (try with_reducible rfl)
              (try simp only [Act.put, List.setIfInBounds_toArray, List.set_cons_zero, List.set_cons_succ])
              refine wpAnyH_take (i := 2) (oi := { dst := some 27, op := Op.indexAddr 34 (Operand.tmp 25) (Operand.tmp 26), type := 0, pos := "law.go:81", after := #[{ on := 0, ground := Ground.data }, { on := 1, ground := Ground.data }], guard := none }) (v := ?_) rfl (by kernel_rfl) (by kernel_rfl) (by kernel_rfl) (fun _ _ _ h => h) (Or.inl ⟨by rfl, ?_⟩) hHeld ?_
              rotate_left
              · intro w hSw
                (try dsimp only at hSw)
                go_simp
                (try with_reducible rfl)
              (try simp only [Act.put, List.setIfInBounds_toArray, List.set_cons_zero, List.set_cons_succ])
              refine wpAnyH_take (i := 3) (oi := { dst := some 28, op := Op.load 22 (Operand.tmp 27), type := 22, pos := "law.go:81", after := #[{ on := 2, ground := Ground.data }], guard := none }) (v := ?_) rfl (by kernel_rfl) (by kernel_rfl) (by kernel_rfl) (fun _ _ _ h => h) (Or.inl ⟨by rfl, ?_⟩) hHeld ?_
              rotate_left
              · intro w hSw
                (try dsimp only at hSw)
                go_simp
                (try with_reducible rfl)
              (try simp only [Act.put, List.setIfInBounds_toArray, List.set_cons_zero, List.set_cons_succ])
              refine wpAnyH_ready (rs := [4]) (by kernel_rfl) (by simp) ?_
              refine AllReadyH.cons (o := { dst := some 29, op := Op.call { callee := Callee.value (Operand.func 14), args := #[Operand.tmp 28], argTypes := #[22] }, type := 4, pos := "law.go:81", after := #[{ on := 3, ground := Ground.data }], guard := none }) rfl (fun K hK => ?_) AllReadyH.nil
              go_simp
              refine HR.out.mono ?_
              rintro e w3 ⟨rfl, n3⟩
              have hS1 := HSN.out _ n3
              clear hHeld
              go_simp
              refine hK.out _ _ hS1 (fun hHeld => ?_)
              clear hK K
              (try simp only [Act.put, List.setIfInBounds_toArray, List.set_cons_zero, List.set_cons_succ])
              refine wpAnyH_take (i := 5) (oi := { dst := some 30, op := Op.unOp UnOp.not 4 (Operand.tmp 29), type := 4, pos := "law.go:81", after := #[{ on := 4, ground := Ground.data }], guard := none }) (v := ?_) rfl (by kernel_rfl) (by kernel_rfl) (by kernel_rfl) (fun _ _ _ h => h) (Or.inl ⟨by rfl, ?_⟩) hHeld ?_
              rotate_left
              · intro w hSw
                (try dsimp only at hSw)
                go_simp
                (try with_reducible rfl)
              (try simp only [Act.put, List.setIfInBounds_toArray, List.set_cons_zero, List.set_cons_succ])
              refine wpAnyH_take (i := 6) (oi := { dst := some 31, op := Op.move (Operand.tmp 30), type := 4, pos := "law.go:81", after := #[{ on := 5, ground := Ground.data }, { on := 4, ground := Ground.chain }], guard := none }) (v := ?_) rfl (by kernel_rfl) (by kernel_rfl) (by kernel_rfl) (fun _ _ _ h => h) (Or.inl ⟨by rfl, ?_⟩) hHeld ?_
              rotate_left
              · intro w hSw
                (try dsimp only at hSw)
                go_simp
                (try with_reducible rfl)
              (try simp only [Act.put, List.setIfInBounds_toArray, List.set_cons_zero, List.set_cons_succ])
              refine wpAnyH_take (i := 7) (oi := { dst := some 32, op := Op.move (Operand.tmp 1), type := 34, pos := "law.go:81", after := #[{ on := 6, ground := Ground.guard }], guard := some (6, false) }) (v := ?_) rfl (by kernel_rfl) (by kernel_rfl) (by kernel_rfl) (fun _ _ _ h => h) (Or.inl ⟨by rfl, ?_⟩) hHeld ?_
              rotate_left
              · intro w hSw
                (try dsimp only at hSw)
                go_simp
                (try with_reducible rfl)
              (try simp only [Act.put, List.setIfInBounds_toArray, List.set_cons_zero, List.set_cons_succ])
              refine wpAnyH_take (i := 8) (oi := { dst := some 33, op := Op.move (Operand.tmp 5), type := 3, pos := "law.go:81", after := #[{ on := 6, ground := Ground.guard }], guard := some (6, false) }) (v := ?_) rfl (by kernel_rfl) (by kernel_rfl) (by kernel_rfl) (fun _ _ _ h => h) (Or.inl ⟨by rfl, ?_⟩) hHeld ?_
              rotate_left
              · intro w hSw
                (try dsimp only at hSw)
                go_simp
                (try with_reducible rfl)
              (try simp only [Act.put, List.setIfInBounds_toArray, List.set_cons_zero, List.set_cons_succ])
              refine wpAnyH_take (i := 9) (oi := { dst := some 34, op := Op.indexAddr 34 (Operand.tmp 32) (Operand.tmp 33), type := 0, pos := "law.go:81", after := #[{ on := 7, ground := Ground.data }, { on := 8, ground := Ground.data }, { on := 6, ground := Ground.guard }], guard := some (6, false) }) (v := ?_) rfl (by kernel_rfl) (by kernel_rfl) (by kernel_rfl) (fun _ _ _ h => h) (Or.inl ⟨by rfl, ?_⟩) hHeld ?_
              rotate_left
              · intro w hSw
                (try dsimp only at hSw)
                go_simp
                (try with_reducible rfl)
              (try simp only [Act.put, List.setIfInBounds_toArray, List.set_cons_zero, List.set_cons_succ])
              refine wpAnyH_take (i := 10) (oi := { dst := some 35, op := Op.load 22 (Operand.tmp 34), type := 22, pos := "law.go:81", after := #[{ on := 9, ground := Ground.data }, { on := 6, ground := Ground.guard }], guard := some (6, false) }) (v := ?_) rfl (by kernel_rfl) (by kernel_rfl) (by kernel_rfl) (fun _ _ _ h => h) (Or.inl ⟨by rfl, ?_⟩) hHeld ?_
              rotate_left
              · intro w hSw
                (try dsimp only at hSw)
                go_simp
                (try with_reducible rfl)
              (try simp only [Act.put, List.setIfInBounds_toArray, List.set_cons_zero, List.set_cons_succ])
              refine wpAnyH_take (i := 11) (oi := { dst := some 36, op := Op.call { callee := Callee.builtin Builtin.len, args := #[Operand.tmp 35], argTypes := #[22] }, type := 3, pos := "law.go:81", after := #[{ on := 10, ground := Ground.data }, { on := 6, ground := Ground.guard }], guard := some (6, false) }) (v := ?_) rfl (by kernel_rfl) (by kernel_rfl) (by kernel_rfl) (fun _ _ _ h => h) (Or.inl ⟨by rfl, ?_⟩) hHeld ?_
              rotate_left
              · intro w hSw
                (try dsimp only at hSw)
                go_simp
                (try with_reducible rfl)
              (try simp only [Act.put, List.setIfInBounds_toArray, List.set_cons_zero, List.set_cons_succ])
              refine wpAnyH_take (i := 12) (oi := { dst := some 37, op := Op.binOp BinOp.gtr 3 (Operand.tmp 36) (Operand.const (Value.int IntKind.i64 0)) 3, type := 4, pos := "law.go:81", after := #[{ on := 11, ground := Ground.data }, { on := 6, ground := Ground.guard }], guard := some (6, false) }) (v := ?_) rfl (by kernel_rfl) (by kernel_rfl) (by kernel_rfl) (fun _ _ _ h => h) (Or.inl ⟨by rfl, ?_⟩) hHeld ?_
              rotate_left
              · intro w hSw
                (try dsimp only at hSw)
                go_simp
                (try with_reducible rfl)
              (try simp only [Act.put, List.setIfInBounds_toArray, List.set_cons_zero, List.set_cons_succ])
              refine wpAnyH_take (i := 13) (oi := { dst := some 38, op := Op.move (Operand.tmp 37), type := 4, pos := "law.go:81", after := #[{ on := 12, ground := Ground.data }, { on := 6, ground := Ground.chain }, { on := 6, ground := Ground.guard }], guard := some (6, false) }) (v := ?_) rfl (by kernel_rfl) (by kernel_rfl) (by kernel_rfl) (fun _ _ _ h => h) (Or.inl ⟨by rfl, ?_⟩) hHeld ?_
              rotate_left
              · intro w hSw
                (try dsimp only at hSw)
                go_simp
                (try with_reducible rfl)
              (try simp only [Act.put, List.setIfInBounds_toArray, List.set_cons_zero, List.set_cons_succ])
              refine wpAnyH_take (i := 14) (oi := { dst := some 39, op := Op.move (Operand.tmp 1), type := 34, pos := "law.go:81", after := #[{ on := 13, ground := Ground.guard }], guard := some (13, true) }) (v := ?_) rfl (by kernel_rfl) (by kernel_rfl) (by kernel_rfl) (fun _ _ _ h => h) (Or.inl ⟨by rfl, ?_⟩) hHeld ?_
              rotate_left
              · intro w hSw
                (try dsimp only at hSw)
                go_simp
                (try with_reducible rfl)
              (try simp only [Act.put, List.setIfInBounds_toArray, List.set_cons_zero, List.set_cons_succ])
              refine wpAnyH_take (i := 15) (oi := { dst := some 40, op := Op.move (Operand.tmp 5), type := 3, pos := "law.go:81", after := #[{ on := 13, ground := Ground.guard }], guard := some (13, true) }) (v := ?_) rfl (by kernel_rfl) (by kernel_rfl) (by kernel_rfl) (fun _ _ _ h => h) (Or.inl ⟨by rfl, ?_⟩) hHeld ?_
              rotate_left
              · intro w hSw
                (try dsimp only at hSw)
                go_simp
                (try with_reducible rfl)
              (try simp only [Act.put, List.setIfInBounds_toArray, List.set_cons_zero, List.set_cons_succ])
              refine wpAnyH_take (i := 16) (oi := { dst := some 41, op := Op.indexAddr 34 (Operand.tmp 39) (Operand.tmp 40), type := 0, pos := "law.go:81", after := #[{ on := 14, ground := Ground.data }, { on := 15, ground := Ground.data }, { on := 13, ground := Ground.guard }], guard := some (13, true) }) (v := ?_) rfl (by kernel_rfl) (by kernel_rfl) (by kernel_rfl) (fun _ _ _ h => h) (Or.inl ⟨by rfl, ?_⟩) hHeld ?_
              rotate_left
              · intro w hSw
                (try dsimp only at hSw)
                go_simp
                (try with_reducible rfl)
              (try simp only [Act.put, List.setIfInBounds_toArray, List.set_cons_zero, List.set_cons_succ])
              refine wpAnyH_take (i := 17) (oi := { dst := some 42, op := Op.load 22 (Operand.tmp 41), type := 22, pos := "law.go:81", after := #[{ on := 16, ground := Ground.data }, { on := 13, ground := Ground.guard }], guard := some (13, true) }) (v := ?_) rfl (by kernel_rfl) (by kernel_rfl) (by kernel_rfl) (fun _ _ _ h => h) (Or.inl ⟨by rfl, ?_⟩) hHeld ?_
              rotate_left
              · intro w hSw
                (try dsimp only at hSw)
                go_simp
                (try with_reducible rfl)
              (try simp only [Act.put, List.setIfInBounds_toArray, List.set_cons_zero, List.set_cons_succ])
              refine wpAnyH_take (i := 18) (oi := { dst := some 43, op := Op.move (Operand.tmp 1), type := 34, pos := "law.go:81", after := #[{ on := 13, ground := Ground.guard }], guard := some (13, true) }) (v := ?_) rfl (by kernel_rfl) (by kernel_rfl) (by kernel_rfl) (fun _ _ _ h => h) (Or.inl ⟨by rfl, ?_⟩) hHeld ?_
              rotate_left
              · intro w hSw
                (try dsimp only at hSw)
                go_simp
                (try with_reducible rfl)
              (try simp only [Act.put, List.setIfInBounds_toArray, List.set_cons_zero, List.set_cons_succ])
              refine wpAnyH_take (i := 19) (oi := { dst := some 44, op := Op.move (Operand.tmp 5), type := 3, pos := "law.go:81", after := #[{ on := 13, ground := Ground.guard }], guard := some (13, true) }) (v := ?_) rfl (by kernel_rfl) (by kernel_rfl) (by kernel_rfl) (fun _ _ _ h => h) (Or.inl ⟨by rfl, ?_⟩) hHeld ?_
              rotate_left
              · intro w hSw
                (try dsimp only at hSw)
                go_simp
                (try with_reducible rfl)
              (try simp only [Act.put, List.setIfInBounds_toArray, List.set_cons_zero, List.set_cons_succ])
              refine wpAnyH_take (i := 20) (oi := { dst := some 45, op := Op.indexAddr 34 (Operand.tmp 43) (Operand.tmp 44), type := 0, pos := "law.go:81", after := #[{ on := 18, ground := Ground.data }, { on := 19, ground := Ground.data }, { on := 13, ground := Ground.guard }], guard := some (13, true) }) (v := ?_) rfl (by kernel_rfl) (by kernel_rfl) (by kernel_rfl) (fun _ _ _ h => h) (Or.inl ⟨by rfl, ?_⟩) hHeld ?_
              rotate_left
              · intro w hSw
                (try dsimp only at hSw)
                go_simp
                (try with_reducible rfl)
              (try simp only [Act.put, List.setIfInBounds_toArray, List.set_cons_zero, List.set_cons_succ])
              refine wpAnyH_take (i := 21) (oi := { dst := some 46, op := Op.load 22 (Operand.tmp 45), type := 22, pos := "law.go:81", after := #[{ on := 20, ground := Ground.data }, { on := 13, ground := Ground.guard }], guard := some (13, true) }) (v := ?_) rfl (by kernel_rfl) (by kernel_rfl) (by kernel_rfl) (fun _ _ _ h => h) (Or.inl ⟨by rfl, ?_⟩) hHeld ?_
              rotate_left
              · intro w hSw
                (try dsimp only at hSw)
                go_simp
                (try with_reducible rfl)
              (try simp only [Act.put, List.setIfInBounds_toArray, List.set_cons_zero, List.set_cons_succ])
              refine wpAnyH_take (i := 22) (oi := { dst := some 47, op := Op.call { callee := Callee.builtin Builtin.len, args := #[Operand.tmp 46], argTypes := #[22] }, type := 3, pos := "law.go:81", after := #[{ on := 21, ground := Ground.data }, { on := 13, ground := Ground.guard }], guard := some (13, true) }) (v := ?_) rfl (by kernel_rfl) (by kernel_rfl) (by kernel_rfl) (fun _ _ _ h => h) (Or.inl ⟨by rfl, ?_⟩) hHeld ?_
              rotate_left
              · intro w hSw
                (try dsimp only at hSw)
                go_simp
                (try with_reducible rfl)
              (try simp only [Act.put, List.setIfInBounds_toArray, List.set_cons_zero, List.set_cons_succ])
              refine wpAnyH_take (i := 23) (oi := { dst := some 48, op := Op.binOp BinOp.sub 3 (Operand.tmp 47) (Operand.const (Value.int IntKind.i64 1)) 3, type := 3, pos := "law.go:81", after := #[{ on := 22, ground := Ground.data }, { on := 13, ground := Ground.guard }], guard := some (13, true) }) (v := ?_) rfl (by kernel_rfl) (by kernel_rfl) (by kernel_rfl) (fun _ _ _ h => h) (Or.inl ⟨by rfl, ?_⟩) hHeld ?_
              rotate_left
              · intro w hSw
                (try dsimp only at hSw)
                go_simp
                (try with_reducible rfl)
              (try simp only [Act.put, List.setIfInBounds_toArray, List.set_cons_zero, List.set_cons_succ])
              refine wpAnyH_take (i := 24) (oi := { dst := some 49, op := Op.indexAddr 22 (Operand.tmp 42) (Operand.tmp 48), type := 0, pos := "law.go:81", after := #[{ on := 17, ground := Ground.data }, { on := 23, ground := Ground.data }, { on := 13, ground := Ground.guard }], guard := some (13, true) }) (v := ?_) rfl (by kernel_rfl) (by kernel_rfl) (by kernel_rfl) (fun _ _ _ h => h) (Or.inl ⟨by rfl, ?_⟩) hHeld ?_
              rotate_left
              · intro w hSw
                (try dsimp only at hSw)
                go_simp
                (try with_reducible rfl)
              (try simp only [Act.put, List.setIfInBounds_toArray, List.set_cons_zero, List.set_cons_succ])
              refine wpAnyH_take (i := 25) (oi := { dst := some 50, op := Op.fieldAddr 29 (Operand.tmp 49) 0, type := 0, pos := "law.go:81", after := #[{ on := 24, ground := Ground.data }, { on := 13, ground := Ground.guard }], guard := some (13, true) }) (v := ?_) rfl (by kernel_rfl) (by kernel_rfl) (by kernel_rfl) (fun _ _ _ h => h) (Or.inl ⟨by rfl, ?_⟩) hHeld ?_
              rotate_left
              · intro w hSw
                (try dsimp only at hSw)
                go_simp
                (try with_reducible rfl)
              (try simp only [Act.put, List.setIfInBounds_toArray, List.set_cons_zero, List.set_cons_succ])
              refine wpAnyH_take (i := 26) (oi := { dst := some 51, op := Op.load 2 (Operand.tmp 50), type := 2, pos := "law.go:81", after := #[{ on := 25, ground := Ground.data }, { on := 13, ground := Ground.guard }], guard := some (13, true) }) (v := ?_) rfl (by kernel_rfl) (by kernel_rfl) (by kernel_rfl) (fun _ _ _ h => h) (Or.inl ⟨by rfl, ?_⟩) hHeld ?_
              rotate_left
              · intro w hSw
                (try dsimp only at hSw)
                go_simp
                (try with_reducible rfl)
              (try simp only [Act.put, List.setIfInBounds_toArray, List.set_cons_zero, List.set_cons_succ])
              refine wpAnyH_take (i := 27) (oi := { dst := some 52, op := Op.move (Operand.tmp 0), type := 2, pos := "law.go:81", after := #[{ on := 13, ground := Ground.guard }], guard := some (13, true) }) (v := ?_) rfl (by kernel_rfl) (by kernel_rfl) (by kernel_rfl) (fun _ _ _ h => h) (Or.inl ⟨by rfl, ?_⟩) hHeld ?_
              rotate_left
              · intro w hSw
                (try dsimp only at hSw)
                go_simp
                (try with_reducible rfl)
              (try simp only [Act.put, List.setIfInBounds_toArray, List.set_cons_zero, List.set_cons_succ])
              refine wpAnyH_take (i := 28) (oi := { dst := some 53, op := Op.binOp BinOp.gtr 2 (Operand.tmp 51) (Operand.tmp 52) 2, type := 4, pos := "law.go:81", after := #[{ on := 26, ground := Ground.data }, { on := 27, ground := Ground.data }, { on := 13, ground := Ground.guard }], guard := some (13, true) }) (v := ?_) rfl (by kernel_rfl) (by kernel_rfl) (by kernel_rfl) (fun _ _ _ h => h) (Or.inl ⟨by rfl, ?_⟩) hHeld ?_
              rotate_left
              · intro w hSw
                (try dsimp only at hSw)
                go_simp
                (try with_reducible rfl)
              (try simp only [Act.put, List.setIfInBounds_toArray, List.set_cons_zero, List.set_cons_succ])
              refine wpAnyH_take (i := 29) (oi := { dst := some 54, op := Op.pick (Operand.tmp 38) (Operand.tmp 53) (Operand.const (Value.bool false)), type := 4, pos := "law.go:81", after := #[{ on := 13, ground := Ground.data }, { on := 28, ground := Ground.data }, { on := 6, ground := Ground.guard }], guard := some (6, false) }) (v := ?_) rfl (by kernel_rfl) (by kernel_rfl) (by kernel_rfl) (fun _ _ _ h => h) (Or.inl ⟨by rfl, ?_⟩) hHeld ?_
              rotate_left
              · intro w hSw
                (try dsimp only at hSw)
                go_simp
                (try with_reducible rfl)
              (try simp only [Act.put, List.setIfInBounds_toArray, List.set_cons_zero, List.set_cons_succ])
              refine wpAnyH_take (i := 30) (oi := { dst := some 55, op := Op.pick (Operand.tmp 31) (Operand.const (Value.bool true)) (Operand.tmp 54), type := 4, pos := "law.go:81", after := #[{ on := 6, ground := Ground.data }, { on := 29, ground := Ground.data }], guard := none }) (v := ?_) rfl (by kernel_rfl) (by kernel_rfl) (by kernel_rfl) (fun _ _ _ h => h) (Or.inl ⟨by rfl, ?_⟩) hHeld ?_
              rotate_left
              · intro w hSw
                (try dsimp only at hSw)
                go_simp
                (try with_reducible rfl)
              (try simp only [Act.put, List.setIfInBounds_toArray, List.set_cons_zero, List.set_cons_succ])
              refine wpAnyH_done (by kernel_rfl) ?_ _
              go_wp2_with fail
              go_ret
              exact ⟨rfl, HD.out.trans (hS1.2.2.mono HD.out.size)⟩
            · have HZ := Lib.hid (HRL.out (Int.not_lt.1 hy))
              clear HRL
              go_wp2_with fail
              refine wp_region_held_drew (S := fun w' => w'.cell? ⟨b, o + k, none⟩ = some (.slice (some ⟨b2, o2, none⟩) N c2) ∧ w'.cell? ⟨b2, o2 + M * 4, none⟩ = some (.int .i64 ys) ∧ Below wr.heap.size wr w') (by kernel_rfl) hS (fun hHeld => ?_)
              refine wpAnyH_take (i := 0) (oi := { dst := some 25, op := Op.move (Operand.tmp 1), type := 34, pos := "law.go:81", after := #[], guard := none }) (v := ?_) rfl (by kernel_rfl) (by kernel_rfl) (by kernel_rfl) (fun _ _ _ h => h) (Or.inl ⟨by rfl, ?_⟩) hHeld ?_
              rotate_left
              · intro w hSw
                (try dsimp only at hSw)
                go_simp
                (try with_reducible rfl)
              (try simp only [Act.put, List.setIfInBounds_toArray, List.set_cons_zero, List.set_cons_succ])
              refine wpAnyH_take (i := 1) (oi := { dst := some 26, op := Op.move (Operand.tmp 5), type := 3, pos := "law.go:81", after := #[], guard := none }) (v := ?_) rfl (by kernel_rfl) (by kernel_rfl) (by kernel_rfl) (fun _ _ _ h => h) (Or.inl ⟨by rfl, ?_⟩) hHeld ?_
              rotate_left
              · intro w hSw
                (try dsimp only at hSw)
                go_simp
                (try with_reducible rfl)
              (try simp only [Act.put, List.setIfInBounds_toArray, List.set_cons_zero, List.set_cons_succ])
              refine wpAnyH_take (i := 2) (oi := { dst := some 27, op := Op.indexAddr 34 (Operand.tmp 25) (Operand.tmp 26), type := 0, pos := "law.go:81", after := #[{ on := 0, ground := Ground.data }, { on := 1, ground := Ground.data }], guard := none }) (v := ?_) rfl (by kernel_rfl) (by kernel_rfl) (by kernel_rfl) (fun _ _ _ h => h) (Or.inl ⟨by rfl, ?_⟩) hHeld ?_
              rotate_left
              · intro w hSw
                (try dsimp only at hSw)
                go_simp
                (try with_reducible rfl)
              (try simp only [Act.put, List.setIfInBounds_toArray, List.set_cons_zero, List.set_cons_succ])
              refine wpAnyH_take (i := 3) (oi := { dst := some 28, op := Op.load 22 (Operand.tmp 27), type := 22, pos := "law.go:81", after := #[{ on := 2, ground := Ground.data }], guard := none }) (v := ?_) rfl (by kernel_rfl) (by kernel_rfl) (by kernel_rfl) (fun _ _ _ h => h) (Or.inl ⟨by rfl, ?_⟩) hHeld ?_
              rotate_left
              · intro w hSw
                (try dsimp only at hSw)
                go_simp
                (try with_reducible rfl)
              (try simp only [Act.put, List.setIfInBounds_toArray, List.set_cons_zero, List.set_cons_succ])
              refine wpAnyH_ready (rs := [4]) (by kernel_rfl) (by simp) ?_
              refine AllReadyH.cons (o := { dst := some 29, op := Op.call { callee := Callee.value (Operand.func 14), args := #[Operand.tmp 28], argTypes := #[22] }, type := 4, pos := "law.go:81", after := #[{ on := 3, ground := Ground.data }], guard := none }) rfl (fun K hK => ?_) AllReadyH.nil
              go_simp
              refine HR.out.mono ?_
              rintro e w3 ⟨rfl, n3⟩
              have hS1 := HSN.out _ n3
              clear hHeld
              go_simp
              refine hK.out _ _ hS1 (fun hHeld => ?_)
              clear hK K
              (try simp only [Act.put, List.setIfInBounds_toArray, List.set_cons_zero, List.set_cons_succ])
              refine wpAnyH_take (i := 5) (oi := { dst := some 30, op := Op.unOp UnOp.not 4 (Operand.tmp 29), type := 4, pos := "law.go:81", after := #[{ on := 4, ground := Ground.data }], guard := none }) (v := ?_) rfl (by kernel_rfl) (by kernel_rfl) (by kernel_rfl) (fun _ _ _ h => h) (Or.inl ⟨by rfl, ?_⟩) hHeld ?_
              rotate_left
              · intro w hSw
                (try dsimp only at hSw)
                go_simp
                (try with_reducible rfl)
              (try simp only [Act.put, List.setIfInBounds_toArray, List.set_cons_zero, List.set_cons_succ])
              refine wpAnyH_take (i := 6) (oi := { dst := some 31, op := Op.move (Operand.tmp 30), type := 4, pos := "law.go:81", after := #[{ on := 5, ground := Ground.data }, { on := 4, ground := Ground.chain }], guard := none }) (v := ?_) rfl (by kernel_rfl) (by kernel_rfl) (by kernel_rfl) (fun _ _ _ h => h) (Or.inl ⟨by rfl, ?_⟩) hHeld ?_
              rotate_left
              · intro w hSw
                (try dsimp only at hSw)
                go_simp
                (try with_reducible rfl)
              (try simp only [Act.put, List.setIfInBounds_toArray, List.set_cons_zero, List.set_cons_succ])
              refine wpAnyH_take (i := 7) (oi := { dst := some 32, op := Op.move (Operand.tmp 1), type := 34, pos := "law.go:81", after := #[{ on := 6, ground := Ground.guard }], guard := some (6, false) }) (v := ?_) rfl (by kernel_rfl) (by kernel_rfl) (by kernel_rfl) (fun _ _ _ h => h) (Or.inl ⟨by rfl, ?_⟩) hHeld ?_
              rotate_left
              · intro w hSw
                (try dsimp only at hSw)
                go_simp
                (try with_reducible rfl)
              (try simp only [Act.put, List.setIfInBounds_toArray, List.set_cons_zero, List.set_cons_succ])
              refine wpAnyH_take (i := 8) (oi := { dst := some 33, op := Op.move (Operand.tmp 5), type := 3, pos := "law.go:81", after := #[{ on := 6, ground := Ground.guard }], guard := some (6, false) }) (v := ?_) rfl (by kernel_rfl) (by kernel_rfl) (by kernel_rfl) (fun _ _ _ h => h) (Or.inl ⟨by rfl, ?_⟩) hHeld ?_
              rotate_left
              · intro w hSw
                (try dsimp only at hSw)
                go_simp
                (try with_reducible rfl)
              (try simp only [Act.put, List.setIfInBounds_toArray, List.set_cons_zero, List.set_cons_succ])
              refine wpAnyH_take (i := 9) (oi := { dst := some 34, op := Op.indexAddr 34 (Operand.tmp 32) (Operand.tmp 33), type := 0, pos := "law.go:81", after := #[{ on := 7, ground := Ground.data }, { on := 8, ground := Ground.data }, { on := 6, ground := Ground.guard }], guard := some (6, false) }) (v := ?_) rfl (by kernel_rfl) (by kernel_rfl) (by kernel_rfl) (fun _ _ _ h => h) (Or.inl ⟨by rfl, ?_⟩) hHeld ?_
              rotate_left
              · intro w hSw
                (try dsimp only at hSw)
                go_simp
                (try with_reducible rfl)
              (try simp only [Act.put, List.setIfInBounds_toArray, List.set_cons_zero, List.set_cons_succ])
              refine wpAnyH_take (i := 10) (oi := { dst := some 35, op := Op.load 22 (Operand.tmp 34), type := 22, pos := "law.go:81", after := #[{ on := 9, ground := Ground.data }, { on := 6, ground := Ground.guard }], guard := some (6, false) }) (v := ?_) rfl (by kernel_rfl) (by kernel_rfl) (by kernel_rfl) (fun _ _ _ h => h) (Or.inl ⟨by rfl, ?_⟩) hHeld ?_
              rotate_left
              · intro w hSw
                (try dsimp only at hSw)
                go_simp
                (try with_reducible rfl)
              (try simp only [Act.put, List.setIfInBounds_toArray, List.set_cons_zero, List.set_cons_succ])
              refine wpAnyH_take (i := 11) (oi := { dst := some 36, op := Op.call { callee := Callee.builtin Builtin.len, args := #[Operand.tmp 35], argTypes := #[22] }, type := 3, pos := "law.go:81", after := #[{ on := 10, ground := Ground.data }, { on := 6, ground := Ground.guard }], guard := some (6, false) }) (v := ?_) rfl (by kernel_rfl) (by kernel_rfl) (by kernel_rfl) (fun _ _ _ h => h) (Or.inl ⟨by rfl, ?_⟩) hHeld ?_
              rotate_left
              · intro w hSw
                (try dsimp only at hSw)
                go_simp
                (try with_reducible rfl)
              (try simp only [Act.put, List.setIfInBounds_toArray, List.set_cons_zero, List.set_cons_succ])
              refine wpAnyH_take (i := 12) (oi := { dst := some 37, op := Op.binOp BinOp.gtr 3 (Operand.tmp 36) (Operand.const (Value.int IntKind.i64 0)) 3, type := 4, pos := "law.go:81", after := #[{ on := 11, ground := Ground.data }, { on := 6, ground := Ground.guard }], guard := some (6, false) }) (v := ?_) rfl (by kernel_rfl) (by kernel_rfl) (by kernel_rfl) (fun _ _ _ h => h) (Or.inl ⟨by rfl, ?_⟩) hHeld ?_
              rotate_left
              · intro w hSw
                (try dsimp only at hSw)
                go_simp
                (try with_reducible rfl)
              (try simp only [Act.put, List.setIfInBounds_toArray, List.set_cons_zero, List.set_cons_succ])
              refine wpAnyH_take (i := 13) (oi := { dst := some 38, op := Op.move (Operand.tmp 37), type := 4, pos := "law.go:81", after := #[{ on := 12, ground := Ground.data }, { on := 6, ground := Ground.chain }, { on := 6, ground := Ground.guard }], guard := some (6, false) }) (v := ?_) rfl (by kernel_rfl) (by kernel_rfl) (by kernel_rfl) (fun _ _ _ h => h) (Or.inl ⟨by rfl, ?_⟩) hHeld ?_
              rotate_left
              · intro w hSw
                (try dsimp only at hSw)
                go_simp
                (try with_reducible rfl)
              (try simp only [Act.put, List.setIfInBounds_toArray, List.set_cons_zero, List.set_cons_succ])
              refine wpAnyH_take (i := 14) (oi := { dst := some 39, op := Op.move (Operand.tmp 1), type := 34, pos := "law.go:81", after := #[{ on := 13, ground := Ground.guard }], guard := some (13, true) }) (v := ?_) rfl (by kernel_rfl) (by kernel_rfl) (by kernel_rfl) (fun _ _ _ h => h) (Or.inl ⟨by rfl, ?_⟩) hHeld ?_
              rotate_left
              · intro w hSw
                (try dsimp only at hSw)
                go_simp
                (try with_reducible rfl)
              (try simp only [Act.put, List.setIfInBounds_toArray, List.set_cons_zero, List.set_cons_succ])
              refine wpAnyH_take (i := 15) (oi := { dst := some 40, op := Op.move (Operand.tmp 5), type := 3, pos := "law.go:81", after := #[{ on := 13, ground := Ground.guard }], guard := some (13, true) }) (v := ?_) rfl (by kernel_rfl) (by kernel_rfl) (by kernel_rfl) (fun _ _ _ h => h) (Or.inl ⟨by rfl, ?_⟩) hHeld ?_
              rotate_left
              · intro w hSw
                (try dsimp only at hSw)
                go_simp
                (try with_reducible rfl)
              (try simp only [Act.put, List.setIfInBounds_toArray, List.set_cons_zero, List.set_cons_succ])
              refine wpAnyH_take (i := 16) (oi := { dst := some 41, op := Op.indexAddr 34 (Operand.tmp 39) (Operand.tmp 40), type := 0, pos := "law.go:81", after := #[{ on := 14, ground := Ground.data }, { on := 15, ground := Ground.data }, { on := 13, ground := Ground.guard }], guard := some (13, true) }) (v := ?_) rfl (by kernel_rfl) (by kernel_rfl) (by kernel_rfl) (fun _ _ _ h => h) (Or.inl ⟨by rfl, ?_⟩) hHeld ?_
              rotate_left
              · intro w hSw
                (try dsimp only at hSw)
                go_simp
                (try with_reducible rfl)
              (try simp only [Act.put, List.setIfInBounds_toArray, List.set_cons_zero, List.set_cons_succ])
              refine wpAnyH_take (i := 17) (oi := { dst := some 42, op := Op.load 22 (Operand.tmp 41), type := 22, pos := "law.go:81", after := #[{ on := 16, ground := Ground.data }, { on := 13, ground := Ground.guard }], guard := some (13, true) }) (v := ?_) rfl (by kernel_rfl) (by kernel_rfl) (by kernel_rfl) (fun _ _ _ h => h) (Or.inl ⟨by rfl, ?_⟩) hHeld ?_
              rotate_left
              · intro w hSw
                (try dsimp only at hSw)
                go_simp
                (try with_reducible rfl)
              (try simp only [Act.put, List.setIfInBounds_toArray, List.set_cons_zero, List.set_cons_succ])
              refine wpAnyH_take (i := 18) (oi := { dst := some 43, op := Op.move (Operand.tmp 1), type := 34, pos := "law.go:81", after := #[{ on := 13, ground := Ground.guard }], guard := some (13, true) }) (v := ?_) rfl (by kernel_rfl) (by kernel_rfl) (by kernel_rfl) (fun _ _ _ h => h) (Or.inl ⟨by rfl, ?_⟩) hHeld ?_
              rotate_left
              · intro w hSw
                (try dsimp only at hSw)
                go_simp
                (try with_reducible rfl)
              (try simp only [Act.put, List.setIfInBounds_toArray, List.set_cons_zero, List.set_cons_succ])
              refine wpAnyH_take (i := 19) (oi := { dst := some 44, op := Op.move (Operand.tmp 5), type := 3, pos := "law.go:81", after := #[{ on := 13, ground := Ground.guard }], guard := some (13, true) }) (v := ?_) rfl (by kernel_rfl) (by kernel_rfl) (by kernel_rfl) (fun _ _ _ h => h) (Or.inl ⟨by rfl, ?_⟩) hHeld ?_
              rotate_left
              · intro w hSw
                (try dsimp only at hSw)
                go_simp
                (try with_reducible rfl)
              (try simp only [Act.put, List.setIfInBounds_toArray, List.set_cons_zero, List.set_cons_succ])
              refine wpAnyH_take (i := 20) (oi := { dst := some 45, op := Op.indexAddr 34 (Operand.tmp 43) (Operand.tmp 44), type := 0, pos := "law.go:81", after := #[{ on := 18, ground := Ground.data }, { on := 19, ground := Ground.data }, { on := 13, ground := Ground.guard }], guard := some (13, true) }) (v := ?_) rfl (by kernel_rfl) (by kernel_rfl) (by kernel_rfl) (fun _ _ _ h => h) (Or.inl ⟨by rfl, ?_⟩) hHeld ?_
              rotate_left
              · intro w hSw
                (try dsimp only at hSw)
                go_simp
                (try with_reducible rfl)
              (try simp only [Act.put, List.setIfInBounds_toArray, List.set_cons_zero, List.set_cons_succ])
              refine wpAnyH_take (i := 21) (oi := { dst := some 46, op := Op.load 22 (Operand.tmp 45), type := 22, pos := "law.go:81", after := #[{ on := 20, ground := Ground.data }, { on := 13, ground := Ground.guard }], guard := some (13, true) }) (v := ?_) rfl (by kernel_rfl) (by kernel_rfl) (by kernel_rfl) (fun _ _ _ h => h) (Or.inl ⟨by rfl, ?_⟩) hHeld ?_
              rotate_left
              · intro w hSw
                (try dsimp only at hSw)
                go_simp
                (try with_reducible rfl)
              (try simp only [Act.put, List.setIfInBounds_toArray, List.set_cons_zero, List.set_cons_succ])
              refine wpAnyH_take (i := 22) (oi := { dst := some 47, op := Op.call { callee := Callee.builtin Builtin.len, args := #[Operand.tmp 46], argTypes := #[22] }, type := 3, pos := "law.go:81", after := #[{ on := 21, ground := Ground.data }, { on := 13, ground := Ground.guard }], guard := some (13, true) }) (v := ?_) rfl (by kernel_rfl) (by kernel_rfl) (by kernel_rfl) (fun _ _ _ h => h) (Or.inl ⟨by rfl, ?_⟩) hHeld ?_
              rotate_left
              · intro w hSw
                (try dsimp only at hSw)
                go_simp
                (try with_reducible rfl)
              (try simp only [Act.put, List.setIfInBounds_toArray, List.set_cons_zero, List.set_cons_succ])
              refine wpAnyH_take (i := 23) (oi := { dst := some 48, op := Op.binOp BinOp.sub 3 (Operand.tmp 47) (Operand.const (Value.int IntKind.i64 1)) 3, type := 3, pos := "law.go:81", after := #[{ on := 22, ground := Ground.data }, { on := 13, ground := Ground.guard }], guard := some (13, true) }) (v := ?_) rfl (by kernel_rfl) (by kernel_rfl) (by kernel_rfl) (fun _ _ _ h => h) (Or.inl ⟨by rfl, ?_⟩) hHeld ?_
              rotate_left
              · intro w hSw
                (try dsimp only at hSw)
                go_simp
                (try with_reducible rfl)
              (try simp only [Act.put, List.setIfInBounds_toArray, List.set_cons_zero, List.set_cons_succ])
              refine wpAnyH_take (i := 24) (oi := { dst := some 49, op := Op.indexAddr 22 (Operand.tmp 42) (Operand.tmp 48), type := 0, pos := "law.go:81", after := #[{ on := 17, ground := Ground.data }, { on := 23, ground := Ground.data }, { on := 13, ground := Ground.guard }], guard := some (13, true) }) (v := ?_) rfl (by kernel_rfl) (by kernel_rfl) (by kernel_rfl) (fun _ _ _ h => h) (Or.inl ⟨by rfl, ?_⟩) hHeld ?_
              rotate_left
              · intro w hSw
                (try dsimp only at hSw)
                go_simp
                (try with_reducible rfl)
              (try simp only [Act.put, List.setIfInBounds_toArray, List.set_cons_zero, List.set_cons_succ])
              refine wpAnyH_take (i := 25) (oi := { dst := some 50, op := Op.fieldAddr 29 (Operand.tmp 49) 0, type := 0, pos := "law.go:81", after := #[{ on := 24, ground := Ground.data }, { on := 13, ground := Ground.guard }], guard := some (13, true) }) (v := ?_) rfl (by kernel_rfl) (by kernel_rfl) (by kernel_rfl) (fun _ _ _ h => h) (Or.inl ⟨by rfl, ?_⟩) hHeld ?_
              rotate_left
              · intro w hSw
                (try dsimp only at hSw)
                go_simp
                (try with_reducible rfl)
              (try simp only [Act.put, List.setIfInBounds_toArray, List.set_cons_zero, List.set_cons_succ])
              refine wpAnyH_take (i := 26) (oi := { dst := some 51, op := Op.load 2 (Operand.tmp 50), type := 2, pos := "law.go:81", after := #[{ on := 25, ground := Ground.data }, { on := 13, ground := Ground.guard }], guard := some (13, true) }) (v := ?_) rfl (by kernel_rfl) (by kernel_rfl) (by kernel_rfl) (fun _ _ _ h => h) (Or.inl ⟨by rfl, ?_⟩) hHeld ?_
              rotate_left
              · intro w hSw
                (try dsimp only at hSw)
                go_simp
                (try with_reducible rfl)
              (try simp only [Act.put, List.setIfInBounds_toArray, List.set_cons_zero, List.set_cons_succ])
              refine wpAnyH_take (i := 27) (oi := { dst := some 52, op := Op.move (Operand.tmp 0), type := 2, pos := "law.go:81", after := #[{ on := 13, ground := Ground.guard }], guard := some (13, true) }) (v := ?_) rfl (by kernel_rfl) (by kernel_rfl) (by kernel_rfl) (fun _ _ _ h => h) (Or.inl ⟨by rfl, ?_⟩) hHeld ?_
              rotate_left
              · intro w hSw
                (try dsimp only at hSw)
                go_simp
                (try with_reducible rfl)
              (try simp only [Act.put, List.setIfInBounds_toArray, List.set_cons_zero, List.set_cons_succ])
              refine wpAnyH_take (i := 28) (oi := { dst := some 53, op := Op.binOp BinOp.gtr 2 (Operand.tmp 51) (Operand.tmp 52) 2, type := 4, pos := "law.go:81", after := #[{ on := 26, ground := Ground.data }, { on := 27, ground := Ground.data }, { on := 13, ground := Ground.guard }], guard := some (13, true) }) (v := ?_) rfl (by kernel_rfl) (by kernel_rfl) (by kernel_rfl) (fun _ _ _ h => h) (Or.inl ⟨by rfl, ?_⟩) hHeld ?_
              rotate_left
              · intro w hSw
                (try dsimp only at hSw)
                go_simp
                (try with_reducible rfl)
              (try simp only [Act.put, List.setIfInBounds_toArray, List.set_cons_zero, List.set_cons_succ])
              refine wpAnyH_take (i := 29) (oi := { dst := some 54, op := Op.pick (Operand.tmp 38) (Operand.tmp 53) (Operand.const (Value.bool false)), type := 4, pos := "law.go:81", after := #[{ on := 13, ground := Ground.data }, { on := 28, ground := Ground.data }, { on := 6, ground := Ground.guard }], guard := some (6, false) }) (v := ?_) rfl (by kernel_rfl) (by kernel_rfl) (by kernel_rfl) (fun _ _ _ h => h) (Or.inl ⟨by rfl, ?_⟩) hHeld ?_
              rotate_left
              · intro w hSw
                (try dsimp only at hSw)
                go_simp
                (try with_reducible rfl)
              (try simp only [Act.put, List.setIfInBounds_toArray, List.set_cons_zero, List.set_cons_succ])
              refine wpAnyH_take (i := 30) (oi := { dst := some 55, op := Op.pick (Operand.tmp 31) (Operand.const (Value.bool true)) (Operand.tmp 54), type := 4, pos := "law.go:81", after := #[{ on := 6, ground := Ground.data }, { on := 29, ground := Ground.data }], guard := none }) (v := ?_) rfl (by kernel_rfl) (by kernel_rfl) (by kernel_rfl) (fun _ _ _ h => h) (Or.inl ⟨by rfl, ?_⟩) hHeld ?_
              rotate_left
              · intro w hSw
                (try dsimp only at hSw)
                go_simp
                (try with_reducible rfl)
              (try simp only [Act.put, List.setIfInBounds_toArray, List.set_cons_zero, List.set_cons_succ])
              refine wpAnyH_done (by kernel_rfl) ?_ _
              go_wp2_with fail
              exact ⟨⟨k + 1, by omega, by go_num, HZ, Lib.hid (HD.out.trans (hS1.2.2.mono HD.out.size))⟩, by simp [intOf]; omega⟩
          · have hz : q = [] := List.length_eq_zero_iff.1 (by omega)
            have HZ := Lib.hid (HNX.out hr (fun x hx => by rw [hz] at hx; cases hx))
            clear hz
            have j1 : ¬ (0 : Int) < (q.length : Int) := by omega
            have hS : wr.drew.cell? ⟨b, o + k, none⟩ = some (.slice a2 q.length c2) ∧ Below wr.heap.size wr wr.drew := ⟨hs, (Below.refl _ _).drew⟩
            have HSN := Lib.hid (fun (w3 : World) (n : Below wr.drew.heap.size wr.drew w3) => show w3.cell? ⟨b, o + k, none⟩ = some (.slice a2 q.length c2) ∧ Below wr.heap.size wr w3 from ⟨keepC n hs hb, (Below.refl _ _).drew.trans n⟩)
            clear HNX HL hw2 HO hs
            go_wp2_with fail
            refine wp_region_held_drew (S := fun w' => w'.cell? ⟨b, o + k, none⟩ = some (.slice a2 q.length c2) ∧ Below wr.heap.size wr w') (by kernel_rfl) hS (fun hHeld => ?_)
            refine wpAnyH_take (i := 0) (oi := { dst := some 25, op := Op.move (Operand.tmp 1), type := 34, pos := "law.go:81", after := #[], guard := none }) (v := ?_) rfl (by kernel_rfl) (by kernel_rfl) (by kernel_rfl) (fun _ _ _ h => h) (Or.inl ⟨by rfl, ?_⟩) hHeld ?_
            rotate_left
            · intro w hSw
              (try dsimp only at hSw)
              go_simp
              (try with_reducible rfl)
            (try simp only [Act.put, List.setIfInBounds_toArray, List.set_cons_zero, List.set_cons_succ])
            refine wpAnyH_take (i := 1) (oi := { dst := some 26, op := Op.move (Operand.tmp 5), type := 3, pos := "law.go:81", after := #[], guard := none }) (v := ?_) rfl (by kernel_rfl) (by kernel_rfl) (by kernel_rfl) (fun _ _ _ h => h) (Or.inl ⟨by rfl, ?_⟩) hHeld ?_
            rotate_left
            · intro w hSw
              (try dsimp only at hSw)
              go_simp
              (try with_reducible rfl)
            (try simp only [Act.put, List.setIfInBounds_toArray, List.set_cons_zero, List.set_cons_succ])
            refine wpAnyH_take (i := 2) (oi := { dst := some 27, op := Op.indexAddr 34 (Operand.tmp 25) (Operand.tmp 26), type := 0, pos := "law.go:81", after := #[{ on := 0, ground := Ground.data }, { on := 1, ground := Ground.data }], guard := none }) (v := ?_) rfl (by kernel_rfl) (by kernel_rfl) (by kernel_rfl) (fun _ _ _ h => h) (Or.inl ⟨by rfl, ?_⟩) hHeld ?_
            rotate_left
            · intro w hSw
              (try dsimp only at hSw)
              go_simp
              (try with_reducible rfl)
            (try simp only [Act.put, List.setIfInBounds_toArray, List.set_cons_zero, List.set_cons_succ])
            refine wpAnyH_take (i := 3) (oi := { dst := some 28, op := Op.load 22 (Operand.tmp 27), type := 22, pos := "law.go:81", after := #[{ on := 2, ground := Ground.data }], guard := none }) (v := ?_) rfl (by kernel_rfl) (by kernel_rfl) (by kernel_rfl) (fun _ _ _ h => h) (Or.inl ⟨by rfl, ?_⟩) hHeld ?_
            rotate_left
            · intro w hSw
              (try dsimp only at hSw)
              go_simp
              (try with_reducible rfl)
            (try simp only [Act.put, List.setIfInBounds_toArray, List.set_cons_zero, List.set_cons_succ])
            refine wpAnyH_ready (rs := [4]) (by kernel_rfl) (by simp) ?_
            refine AllReadyH.cons (o := { dst := some 29, op := Op.call { callee := Callee.value (Operand.func 14), args := #[Operand.tmp 28], argTypes := #[22] }, type := 4, pos := "law.go:81", after := #[{ on := 3, ground := Ground.data }], guard := none }) rfl (fun K hK => ?_) AllReadyH.nil
            go_simp
            refine HR.out.mono ?_
            rintro e w3 ⟨rfl, n3⟩
            have hS1 := HSN.out _ n3
            clear hHeld
            go_simp
            refine hK.out _ _ hS1 (fun hHeld => ?_)
            clear hK K
            (try simp only [Act.put, List.setIfInBounds_toArray, List.set_cons_zero, List.set_cons_succ])
            refine wpAnyH_take (i := 5) (oi := { dst := some 30, op := Op.unOp UnOp.not 4 (Operand.tmp 29), type := 4, pos := "law.go:81", after := #[{ on := 4, ground := Ground.data }], guard := none }) (v := ?_) rfl (by kernel_rfl) (by kernel_rfl) (by kernel_rfl) (fun _ _ _ h => h) (Or.inl ⟨by rfl, ?_⟩) hHeld ?_
            rotate_left
            · intro w hSw
              (try dsimp only at hSw)
              go_simp
              (try with_reducible rfl)
            (try simp only [Act.put, List.setIfInBounds_toArray, List.set_cons_zero, List.set_cons_succ])
            refine wpAnyH_take (i := 6) (oi := { dst := some 31, op := Op.move (Operand.tmp 30), type := 4, pos := "law.go:81", after := #[{ on := 5, ground := Ground.data }, { on := 4, ground := Ground.chain }], guard := none }) (v := ?_) rfl (by kernel_rfl) (by kernel_rfl) (by kernel_rfl) (fun _ _ _ h => h) (Or.inl ⟨by rfl, ?_⟩) hHeld ?_
            rotate_left
            · intro w hSw
              (try dsimp only at hSw)
              go_simp
              (try with_reducible rfl)
            (try simp only [Act.put, List.setIfInBounds_toArray, List.set_cons_zero, List.set_cons_succ])
            refine wpAnyH_take (i := 7) (oi := { dst := some 32, op := Op.move (Operand.tmp 1), type := 34, pos := "law.go:81", after := #[{ on := 6, ground := Ground.guard }], guard := some (6, false) }) (v := ?_) rfl (by kernel_rfl) (by kernel_rfl) (by kernel_rfl) (fun _ _ _ h => h) (Or.inl ⟨by rfl, ?_⟩) hHeld ?_
            rotate_left
            · intro w hSw
              (try dsimp only at hSw)
              go_simp
              (try with_reducible rfl)
            (try simp only [Act.put, List.setIfInBounds_toArray, List.set_cons_zero, List.set_cons_succ])
            refine wpAnyH_take (i := 8) (oi := { dst := some 33, op := Op.move (Operand.tmp 5), type := 3, pos := "law.go:81", after := #[{ on := 6, ground := Ground.guard }], guard := some (6, false) }) (v := ?_) rfl (by kernel_rfl) (by kernel_rfl) (by kernel_rfl) (fun _ _ _ h => h) (Or.inl ⟨by rfl, ?_⟩) hHeld ?_
            rotate_left
            · intro w hSw
              (try dsimp only at hSw)
              go_simp
              (try with_reducible rfl)
            (try simp only [Act.put, List.setIfInBounds_toArray, List.set_cons_zero, List.set_cons_succ])
            refine wpAnyH_take (i := 9) (oi := { dst := some 34, op := Op.indexAddr 34 (Operand.tmp 32) (Operand.tmp 33), type := 0, pos := "law.go:81", after := #[{ on := 7, ground := Ground.data }, { on := 8, ground := Ground.data }, { on := 6, ground := Ground.guard }], guard := some (6, false) }) (v := ?_) rfl (by kernel_rfl) (by kernel_rfl) (by kernel_rfl) (fun _ _ _ h => h) (Or.inl ⟨by rfl, ?_⟩) hHeld ?_
            rotate_left
            · intro w hSw
              (try dsimp only at hSw)
              go_simp
              (try with_reducible rfl)
            (try simp only [Act.put, List.setIfInBounds_toArray, List.set_cons_zero, List.set_cons_succ])
            refine wpAnyH_take (i := 10) (oi := { dst := some 35, op := Op.load 22 (Operand.tmp 34), type := 22, pos := "law.go:81", after := #[{ on := 9, ground := Ground.data }, { on := 6, ground := Ground.guard }], guard := some (6, false) }) (v := ?_) rfl (by kernel_rfl) (by kernel_rfl) (by kernel_rfl) (fun _ _ _ h => h) (Or.inl ⟨by rfl, ?_⟩) hHeld ?_
            rotate_left
            · intro w hSw
              (try dsimp only at hSw)
              go_simp
              (try with_reducible rfl)
            (try simp only [Act.put, List.setIfInBounds_toArray, List.set_cons_zero, List.set_cons_succ])
            refine wpAnyH_take (i := 11) (oi := { dst := some 36, op := Op.call { callee := Callee.builtin Builtin.len, args := #[Operand.tmp 35], argTypes := #[22] }, type := 3, pos := "law.go:81", after := #[{ on := 10, ground := Ground.data }, { on := 6, ground := Ground.guard }], guard := some (6, false) }) (v := ?_) rfl (by kernel_rfl) (by kernel_rfl) (by kernel_rfl) (fun _ _ _ h => h) (Or.inl ⟨by rfl, ?_⟩) hHeld ?_
            rotate_left
            · intro w hSw
              (try dsimp only at hSw)
              go_simp
              (try with_reducible rfl)
            (try simp only [Act.put, List.setIfInBounds_toArray, List.set_cons_zero, List.set_cons_succ])
            refine wpAnyH_take (i := 12) (oi := { dst := some 37, op := Op.binOp BinOp.gtr 3 (Operand.tmp 36) (Operand.const (Value.int IntKind.i64 0)) 3, type := 4, pos := "law.go:81", after := #[{ on := 11, ground := Ground.data }, { on := 6, ground := Ground.guard }], guard := some (6, false) }) (v := ?_) rfl (by kernel_rfl) (by kernel_rfl) (by kernel_rfl) (fun _ _ _ h => h) (Or.inl ⟨by rfl, ?_⟩) hHeld ?_
            rotate_left
            · intro w hSw
              (try dsimp only at hSw)
              go_simp
              (try with_reducible rfl)
            (try simp only [Act.put, List.setIfInBounds_toArray, List.set_cons_zero, List.set_cons_succ])
            refine wpAnyH_take (i := 13) (oi := { dst := some 38, op := Op.move (Operand.tmp 37), type := 4, pos := "law.go:81", after := #[{ on := 12, ground := Ground.data }, { on := 6, ground := Ground.chain }, { on := 6, ground := Ground.guard }], guard := some (6, false) }) (v := ?_) rfl (by kernel_rfl) (by kernel_rfl) (by kernel_rfl) (fun _ _ _ h => h) (Or.inl ⟨by rfl, ?_⟩) hHeld ?_
            rotate_left
            · intro w hSw
              (try dsimp only at hSw)
              go_simp
              (try with_reducible rfl)
            (try simp only [Act.put, List.setIfInBounds_toArray, List.set_cons_zero, List.set_cons_succ])
            refine wpAnyH_take (i := 14) (oi := { dst := some 39, op := Op.move (Operand.tmp 1), type := 34, pos := "law.go:81", after := #[{ on := 13, ground := Ground.guard }], guard := some (13, true) }) (v := undef) rfl (by kernel_rfl) (by kernel_rfl) (by kernel_rfl) (fun _ _ _ h => h) (Or.inr ⟨by rfl, rfl⟩) hHeld ?_
            (try simp only [Act.put, List.setIfInBounds_toArray, List.set_cons_zero, List.set_cons_succ])
            refine wpAnyH_take (i := 15) (oi := { dst := some 40, op := Op.move (Operand.tmp 5), type := 3, pos := "law.go:81", after := #[{ on := 13, ground := Ground.guard }], guard := some (13, true) }) (v := undef) rfl (by kernel_rfl) (by kernel_rfl) (by kernel_rfl) (fun _ _ _ h => h) (Or.inr ⟨by rfl, rfl⟩) hHeld ?_
            (try simp only [Act.put, List.setIfInBounds_toArray, List.set_cons_zero, List.set_cons_succ])
            refine wpAnyH_take (i := 16) (oi := { dst := some 41, op := Op.indexAddr 34 (Operand.tmp 39) (Operand.tmp 40), type := 0, pos := "law.go:81", after := #[{ on := 14, ground := Ground.data }, { on := 15, ground := Ground.data }, { on := 13, ground := Ground.guard }], guard := some (13, true) }) (v := undef) rfl (by kernel_rfl) (by kernel_rfl) (by kernel_rfl) (fun _ _ _ h => h) (Or.inr ⟨by rfl, rfl⟩) hHeld ?_
            (try simp only [Act.put, List.setIfInBounds_toArray, List.set_cons_zero, List.set_cons_succ])
            refine wpAnyH_take (i := 17) (oi := { dst := some 42, op := Op.load 22 (Operand.tmp 41), type := 22, pos := "law.go:81", after := #[{ on := 16, ground := Ground.data }, { on := 13, ground := Ground.guard }], guard := some (13, true) }) (v := undef) rfl (by kernel_rfl) (by kernel_rfl) (by kernel_rfl) (fun _ _ _ h => h) (Or.inr ⟨by rfl, rfl⟩) hHeld ?_
            (try simp only [Act.put, List.setIfInBounds_toArray, List.set_cons_zero, List.set_cons_succ])
            refine wpAnyH_take (i := 18) (oi := { dst := some 43, op := Op.move (Operand.tmp 1), type := 34, pos := "law.go:81", after := #[{ on := 13, ground := Ground.guard }], guard := some (13, true) }) (v := undef) rfl (by kernel_rfl) (by kernel_rfl) (by kernel_rfl) (fun _ _ _ h => h) (Or.inr ⟨by rfl, rfl⟩) hHeld ?_
            (try simp only [Act.put, List.setIfInBounds_toArray, List.set_cons_zero, List.set_cons_succ])
            refine wpAnyH_take (i := 19) (oi := { dst := some 44, op := Op.move (Operand.tmp 5), type := 3, pos := "law.go:81", after := #[{ on := 13, ground := Ground.guard }], guard := some (13, true) }) (v := undef) rfl (by kernel_rfl) (by kernel_rfl) (by kernel_rfl) (fun _ _ _ h => h) (Or.inr ⟨by rfl, rfl⟩) hHeld ?_
            (try simp only [Act.put, List.setIfInBounds_toArray, List.set_cons_zero, List.set_cons_succ])
            refine wpAnyH_take (i := 20) (oi := { dst := some 45, op := Op.indexAddr 34 (Operand.tmp 43) (Operand.tmp 44), type := 0, pos := "law.go:81", after := #[{ on := 18, ground := Ground.data }, { on := 19, ground := Ground.data }, { on := 13, ground := Ground.guard }], guard := some (13, true) }) (v := undef) rfl (by kernel_rfl) (by kernel_rfl) (by kernel_rfl) (fun _ _ _ h => h) (Or.inr ⟨by rfl, rfl⟩) hHeld ?_
            (try simp only [Act.put, List.setIfInBounds_toArray, List.set_cons_zero, List.set_cons_succ])
            refine wpAnyH_take (i := 21) (oi := { dst := some 46, op := Op.load 22 (Operand.tmp 45), type := 22, pos := "law.go:81", after := #[{ on := 20, ground := Ground.data }, { on := 13, ground := Ground.guard }], guard := some (13, true) }) (v := undef) rfl (by kernel_rfl) (by kernel_rfl) (by kernel_rfl) (fun _ _ _ h => h) (Or.inr ⟨by rfl, rfl⟩) hHeld ?_
            (try simp only [Act.put, List.setIfInBounds_toArray, List.set_cons_zero, List.set_cons_succ])
            refine wpAnyH_take (i := 22) (oi := { dst := some 47, op := Op.call { callee := Callee.builtin Builtin.len, args := #[Operand.tmp 46], argTypes := #[22] }, type := 3, pos := "law.go:81", after := #[{ on := 21, ground := Ground.data }, { on := 13, ground := Ground.guard }], guard := some (13, true) }) (v := undef) rfl (by kernel_rfl) (by kernel_rfl) (by kernel_rfl) (fun _ _ _ h => h) (Or.inr ⟨by rfl, rfl⟩) hHeld ?_
            (try simp only [Act.put, List.setIfInBounds_toArray, List.set_cons_zero, List.set_cons_succ])
            refine wpAnyH_take (i := 23) (oi := { dst := some 48, op := Op.binOp BinOp.sub 3 (Operand.tmp 47) (Operand.const (Value.int IntKind.i64 1)) 3, type := 3, pos := "law.go:81", after := #[{ on := 22, ground := Ground.data }, { on := 13, ground := Ground.guard }], guard := some (13, true) }) (v := undef) rfl (by kernel_rfl) (by kernel_rfl) (by kernel_rfl) (fun _ _ _ h => h) (Or.inr ⟨by rfl, rfl⟩) hHeld ?_
            (try simp only [Act.put, List.setIfInBounds_toArray, List.set_cons_zero, List.set_cons_succ])
            refine wpAnyH_take (i := 24) (oi := { dst := some 49, op := Op.indexAddr 22 (Operand.tmp 42) (Operand.tmp 48), type := 0, pos := "law.go:81", after := #[{ on := 17, ground := Ground.data }, { on := 23, ground := Ground.data }, { on := 13, ground := Ground.guard }], guard := some (13, true) }) (v := undef) rfl (by kernel_rfl) (by kernel_rfl) (by kernel_rfl) (fun _ _ _ h => h) (Or.inr ⟨by rfl, rfl⟩) hHeld ?_
            (try simp only [Act.put, List.setIfInBounds_toArray, List.set_cons_zero, List.set_cons_succ])
            refine wpAnyH_take (i := 25) (oi := { dst := some 50, op := Op.fieldAddr 29 (Operand.tmp 49) 0, type := 0, pos := "law.go:81", after := #[{ on := 24, ground := Ground.data }, { on := 13, ground := Ground.guard }], guard := some (13, true) }) (v := undef) rfl (by kernel_rfl) (by kernel_rfl) (by kernel_rfl) (fun _ _ _ h => h) (Or.inr ⟨by rfl, rfl⟩) hHeld ?_
            (try simp only [Act.put, List.setIfInBounds_toArray, List.set_cons_zero, List.set_cons_succ])
            refine wpAnyH_take (i := 26) (oi := { dst := some 51, op := Op.load 2 (Operand.tmp 50), type := 2, pos := "law.go:81", after := #[{ on := 25, ground := Ground.data }, { on := 13, ground := Ground.guard }], guard := some (13, true) }) (v := undef) rfl (by kernel_rfl) (by kernel_rfl) (by kernel_rfl) (fun _ _ _ h => h) (Or.inr ⟨by rfl, rfl⟩) hHeld ?_
            (try simp only [Act.put, List.setIfInBounds_toArray, List.set_cons_zero, List.set_cons_succ])
            refine wpAnyH_take (i := 27) (oi := { dst := some 52, op := Op.move (Operand.tmp 0), type := 2, pos := "law.go:81", after := #[{ on := 13, ground := Ground.guard }], guard := some (13, true) }) (v := undef) rfl (by kernel_rfl) (by kernel_rfl) (by kernel_rfl) (fun _ _ _ h => h) (Or.inr ⟨by rfl, rfl⟩) hHeld ?_
            (try simp only [Act.put, List.setIfInBounds_toArray, List.set_cons_zero, List.set_cons_succ])
            refine wpAnyH_take (i := 28) (oi := { dst := some 53, op := Op.binOp BinOp.gtr 2 (Operand.tmp 51) (Operand.tmp 52) 2, type := 4, pos := "law.go:81", after := #[{ on := 26, ground := Ground.data }, { on := 27, ground := Ground.data }, { on := 13, ground := Ground.guard }], guard := some (13, true) }) (v := undef) rfl (by kernel_rfl) (by kernel_rfl) (by kernel_rfl) (fun _ _ _ h => h) (Or.inr ⟨by rfl, rfl⟩) hHeld ?_
            (try simp only [Act.put, List.setIfInBounds_toArray, List.set_cons_zero, List.set_cons_succ])
            refine wpAnyH_take (i := 29) (oi := { dst := some 54, op := Op.pick (Operand.tmp 38) (Operand.tmp 53) (Operand.const (Value.bool false)), type := 4, pos := "law.go:81", after := #[{ on := 13, ground := Ground.data }, { on := 28, ground := Ground.data }, { on := 6, ground := Ground.guard }], guard := some (6, false) }) (v := ?_) rfl (by kernel_rfl) (by kernel_rfl) (by kernel_rfl) (fun _ _ _ h => h) (Or.inl ⟨by rfl, ?_⟩) hHeld ?_
            rotate_left
            · intro w hSw
              (try dsimp only at hSw)
              go_simp
              (try with_reducible rfl)
            (try simp only [Act.put, List.setIfInBounds_toArray, List.set_cons_zero, List.set_cons_succ])
            refine wpAnyH_take (i := 30) (oi := { dst := some 55, op := Op.pick (Operand.tmp 31) (Operand.const (Value.bool true)) (Operand.tmp 54), type := 4, pos := "law.go:81", after := #[{ on := 6, ground := Ground.data }, { on := 29, ground := Ground.data }], guard := none }) (v := ?_) rfl (by kernel_rfl) (by kernel_rfl) (by kernel_rfl) (fun _ _ _ h => h) (Or.inl ⟨by rfl, ?_⟩) hHeld ?_
            rotate_left
            · intro w hSw
              (try dsimp only at hSw)
              go_simp
              (try with_reducible rfl)
            (try simp only [Act.put, List.setIfInBounds_toArray, List.set_cons_zero, List.set_cons_succ])
            refine wpAnyH_done (by kernel_rfl) ?_ _
            go_wp2_with fail
            exact ⟨⟨k + 1, by omega, by go_num, HZ, Lib.hid (HD.out.trans (hS1.2.mono HD.out.size))⟩, by simp [intOf]; omega⟩
      · have i1 : ¬ (k : Int) < (L.length : Int) := by omega
        have HGD := Lib.hid (pre_all HT.out hlt)
        obtain ⟨rs, hgr, hm, hws⟩ := H.out.on HD.out
        have HCELL := Lib.hid (qC_cells hws)
        have HWS := Lib.hid hws
        obtain ⟨a', c', e, hc', hat'⟩ := hgr
        injection e with e1 e2 e3
        subst e1 e3
        obtain ⟨j0, hi, hz0, hz1, hz2⟩ := infoQ
        have HI := Lib.hid (And.intro hi (And.intro hz0 (And.intro hz1 hz2)))
        clear hi hz0 hz1 hz2
        have dA := Lib.hid (aBelow wr (.cells #[] 22))
        have HL2 := Lib.hid (hat'.on dA.out)
        have HN1 := Lib.hid (gat_news qC_len (by decide) HL2.out)
        have HG1 : Hid (a = none → L.length = 0) := Lib.hid (by rw [e2]; exact gat_none HL2.out)
        have HFL : Hid ((flatG qC rs).length = L.length * 1) := Lib.hid (by rw [flatG_len qC_len, e2])
        have HM0 := Lib.hid (World.ownsRow_made (base := wr.heap.size) (e := 22) (size := 1) wr #[] 0 (Nat.le_refl _) (Nat.zero_le _) (by simp))
        have HME := Lib.hid (And.intro hm e2)
        obtain ⟨hq1, hok1⟩ := HO.out
        have hpl : pending L ≤ 2000 := Nat.le_trans (pending_le hq1) (by omega)
        have HPR := Lib.hid (fun W (d : Below w.heap.size w W) => refPending_any (.slice a L.length c) L W (H.out.on d) (by omega) (fun k => by
          have h1 := pending_le (L := L.take k) (fun q hm => hq1 q (List.mem_of_mem_take hm))
          have h2 : (L.take k).length ≤ L.length := by rw [List.length_take]; omega
          omega))
        have HLL : Hid (L.length ≤ 20) := Lib.hid hl
        clear hm e2 hat' hws HL HQ HT hq1 hok1 HL2
        go_wp2_with (first
          | (at_builtin; refine wpList_append_any rfl _ _ 34 rfl wr.heap.size 22 j0 (.slice none 0 0) 1 24 Try.underlying34 HI.out.1 HI.out.2.1 HI.out.2.2.1 HI.out.2.2.2 rfl (by decide) _ _ _ rfl HM0.out a L.length c (flatG qC rs) rfl HFL.out HG1.out HN1.out HCELL.out (by unfold maxLen; omega) (by omega) (by simp) ?_
             intro v5 w3 hown5 hgrow5 hnil5
             have D3 := Lib.hid ((dA.out).grown hgrow5 (by simp) (fun j hj => by cases hj; exact Nat.le_refl _))
             have HX := Lib.hid (qown_made (rs := rs) (by have := hown5; rw [Nat.zero_add, HME.out.2] at this; simpa using this) (fun e => by have := (hnil5.1 e).1; cases this) (fun r hr => (HWS.out r hr).on D3.out))
             clear hown5 hgrow5 hnil5 HM0 HN1 HG1 HFL HCELL dA HI))
        obtain ⟨P, cp, rfl, hcp, hPb, -, hQ⟩ := HX.out
        clear HX HWS
        have hPw : w.heap.size ≤ P := Nat.le_trans HD.out.size hPb
        have D3 := Lib.hid (HD.out.trans (D3.out.mono HD.out.size))
        obtain ⟨hm, hlr⟩ := HME.out
        obtain ⟨hq1, hok1⟩ := HO.out
        have hN20 := HLL.out
        obtain ⟨N0, hN0⟩ : ∃ N0, rs.length = N0 := ⟨_, rfl⟩
        rw [hlr, hN0] at hN20
        have HST := Lib.hid (fun (L2 : List (List Wr)) v W (hl : LRow W v L2) (h1 : L2.length ≤ 20) (h2 : (∀ q ∈ L2, q.length ≤ 100) ∧ ∀ q ∈ L2, ∀ x ∈ q, okW x) (h3 : Good last L2) => O.stable last v L2 W hl (by omega) (fun q hq => Nat.le_trans (h2.1 q hq) (by omega)) h2.2 (good_begins h3) k2)
        have HPO := Lib.hid (fun (q : List Wr) v W (hl : WRow W v q) (h1 : q.length ≤ 100) (h2 : ∀ x ∈ q, okW x) => O.pop v q W hl (by omega) h2)
        have HLR := Lib.hid (hQ.lrow hcp)
        rw [hm] at HLR
        rw [hN0] at HLR hcp ⊢
        have HS1 := Lib.hid (HST.out _ _ _ HLR.out HLL.out HO.out HGD.out)
        have hst : ok64 (stable last L) := stable_ok HGD.out k2
        clear O HA0 HME hlr
        refine HS1.out.mono ?_
        rintro e w4 ⟨rfl, n4⟩
        have D4 := Lib.hid (D3.out.trans (n4.mono D3.out.size))
        have HQ4 := Lib.hid (hQ.on n4)
        clear HS1 HLR hQ n4 D3
        go_wp2_with fail
        refine (HPR.out _ D4.out).mono ?_
        rintro e w5 ⟨rfl, rfl⟩
        clear HPR
        go_wp2_with fail
        go_loopw [7, 8] (fun sw sn wx => ∃ (rs2 : List (Value × List Wr)) (L2 : List (List Wr)) (n : Nat), n ≤ 2000 ∧ sn = .int .i64 n ∧ sw = .int .i64 (stable last L2) ∧ Hid (rs2.map (·.2) = L2) ∧ Hid (rs2.length = N0) ∧ Hid (QOwn wx P rs2) ∧ Hid (Good last L2) ∧ Hid (pending L2 = n) ∧ Hid ((∀ q ∈ L2, q.length ≤ 100) ∧ ∀ q ∈ L2, ∀ x ∈ q, okW x) ∧ Hid (Below w.heap.size w wx)) (fun _ sn _ => (intOf sn).toNat)
        case atStart => exact ⟨rs, L, _, hpl, rfl, rfl, Lib.hid hm, Lib.hid hN0, HQ4, HGD, Lib.hid rfl, HO, D4⟩
        case round =>
          obtain ⟨rs2, L2, n, hn2, rfl, rfl, HM, HN, HQO, HGD2, HPN, HO2, HDX⟩ := hrel
          clear HO HGD HQ4 HLL hm hN0 hq1 hok1 hst
          by_cases hn0 : 0 < n
          · have j1 : (0 : Int) < (n : Int) := by omega
            obtain ⟨wo, hwo⟩ : ∃ wo, wo = wr := ⟨_, rfl⟩
            subst hwo
            go_wp2_with fail
            go_loopw [9, 10] (fun sa si wx => ∃ (i nq : Nat) (a : Option Nat), i ≤ N0 ∧ si = .int .i64 i ∧ sa = .int .i64 (atV a) ∧ Hid (Found L2 i a) ∧ wx = wo.drewN nq) (fun _ si _ => N0 - (intOf si).toNat)
            case atStart => exact ⟨0, 0, none, Nat.zero_le _, rfl, rfl, Lib.hid (found_zero _), rfl⟩
            case round =>
              obtain ⟨i, nq, fa, hi, rfl, rfl, HF, rfl⟩ := hrel
              by_cases hit : i < N0
              · obtain ⟨ai, ci, hiL, f1, hwi, -⟩ := qown_at HQO.out HM.out (i := i) (by rw [HN.out]; exact hit)
                have HFQ := HF.out
                have m1 : (i : Int) < (N0 : Int) := by omega
                have m2 : (0 : Int) ≤ (i : Int) := by omega
                have hgi : L2[i]? = some L2[i] := List.getElem?_eq_getElem hiL
                generalize L2[i] = q at *
                cases q with
                | nil =>
                  have HZ := Lib.hid (found_empty HFQ hgi)
                  clear HFQ hgi hwi HF HGD2 HO2 HPO HST HDX HQO
                  go_wp2_with fail
                  go_quiet (fail)
                  go_wp2_with fail
                  exact ⟨⟨i + 1, _, fa, by omega, by go_num, rfl, HZ, rfl⟩, by simp [intOf]; omega⟩
                | cons x r =>
                  obtain ⟨a3, c3, e3, hc3, hl3⟩ := hwi
                  injection e3 with e4 _ e5
                  subst e4 e5
                  obtain ⟨bi, oi, rfl, hbi, hLi⟩ := hl3 (by simp)
                  obtain ⟨e0, -, -, -⟩ := w_at hLi 0 (by simp)
                  simp only [Nat.zero_mul, Nat.add_zero, List.getElem_cons_zero] at e0
                  obtain ⟨Q, hQl⟩ : ∃ Q, (x :: r).length = Q := ⟨_, rfl⟩
                  have hQ0 : 0 < Q := by rw [← hQl]; simp
                  rw [hQl] at f1 hc3
                  clear hLi hQl
                  obtain ⟨xs, xw, xk, xv⟩ := x
                  simp only at e0
                  cases fa with
                  | none =>
                    have HZ := Lib.hid (found_first HFQ hgi)
                    clear HFQ hgi HF HGD2 HO2 HPO HST HDX HQO
                    simp only [atV]
                    go_wp2_with fail
                    go_quiet (fail)
                    go_wp2_with fail
                    exact ⟨⟨i + 1, _, some i, by omega, by go_num, rfl, HZ, rfl⟩, by simp [intOf]; omega⟩
                  | some j =>
                    obtain ⟨hji, y, s, hgj, -⟩ := HFQ
                    have hgj0 := hgj
                    obtain ⟨aj, cj, hjL, f2, hwj, -⟩ := qown_at HQO.out HM.out (i := j) (by rw [HN.out]; omega)
                    rw [List.getElem?_eq_getElem hjL] at hgj0
                    injection hgj0 with hgj0
                    rw [hgj0] at f2 hwj
                    obtain ⟨a4, c4, e4, hc4, hl4⟩ := hwj
                    injection e4 with e5 _ e6
                    subst e5 e6
                    obtain ⟨bj, oj, rfl, hbj, hLj⟩ := hl4 (by simp)
                    obtain ⟨y0, -, -, -⟩ := w_at hLj 0 (by simp)
                    simp only [Nat.zero_mul, Nat.add_zero, List.getElem_cons_zero] at y0
                    obtain ⟨R, hRl⟩ : ∃ R, (y :: s).length = R := ⟨_, rfl⟩
                    have hR0 : 0 < R := by rw [← hRl]; simp
                    rw [hRl] at f2 hc4
                    clear hLj hRl hgj0
                    have m3 : (j : Int) < (N0 : Int) := by omega
                    have m4 : (0 : Int) ≤ (j : Int) := by omega
                    have m5 : ¬ (j : Int) < 0 := by omega
                    have m6 : j < N0 := by omega
                    obtain ⟨ys, yw, yk, yv⟩ := y
                    simp only at y0
                    by_cases hxy : xs < ys
                    · have HZ := Lib.hid (found_less HF.out hgj hgi hxy)
                      clear hgi hgj HF HGD2 HO2 HPO HST HDX HQO
                      simp only [atV]
                      go_wp2_with fail
                      go_quiet (fail)
                      go_wp2_with fail
                      exact ⟨⟨i + 1, _, some i, by omega, by go_num, rfl, HZ, rfl⟩, by simp [intOf]; omega⟩
                    · have HZ := Lib.hid (found_more HF.out hgj hgi hxy)
                      clear hgi hgj HF HGD2 HO2 HPO HST HDX HQO
                      simp only [atV]
                      go_wp2_with fail
                      go_quiet (fail)
                      go_wp2_with fail
                      exact ⟨⟨i + 1, _, some j, by omega, by go_num, rfl, HZ, rfl⟩, by simp [intOf]; omega⟩
              · have hiN : i = L2.length := by have h1 := HN.out; have h2 := HM.out; rw [← h2, List.length_map]; omega
                subst hiN
                have m1 : ¬ (L2.length : Int) < (N0 : Int) := by omega
                obtain ⟨j, x, r, rfl, hjL, hLj, hLe⟩ := found_some HF.out (by rw [HPN.out]; exact hn0)
                have hjN : j < N0 := by have h1 := HN.out; have h2 := HM.out; rw [← h2, List.length_map] at hjL; omega
                have hx1 : (x :: r) ∈ L2 := hLj ▸ List.getElem_mem hjL
                have hST := stable_at (last := last) hx1 hLe
                have HRI := Lib.hid (stable_rises HGD2.out hjL hLj hLe)
                have HG3 := Lib.hid (good_set HGD2.out hjL hLj)
                have HP3 := Lib.hid (pending_set hjL hLj)
                have HO3 := Lib.hid (And.intro (lenL_set HO2.out.1 hjL hLj) (okL_set HO2.out.2 hjL hLj))
                have hx2 := (rightFrom_cons.1 (HGD2.out _ hx1).1)
                have hxl := HO2.out.1 _ hx1
                rw [List.length_cons] at hxl
                obtain ⟨aj, cj, hjL', f2, hwj, z2⟩ := qown_at HQO.out HM.out (i := j) (by rw [HN.out]; exact hjN)
                rw [hLj] at f2 hwj
                have HPP := Lib.hid (HPO.out (x :: r) _ (wo.drewN nq) (hwj.on (below_drewN (Below.refl _ _) _)) (by rw [List.length_cons]; exact hxl) (HO2.out.2 _ hx1))
                have hs1 := hx2.1
                have hs2 := hx2.2.1
                have HWJ := Lib.hid hwj
                rw [hST]
                obtain ⟨aj2, cj2, e7, hcj, hlj⟩ := hwj
                injection e7 with e8 _ e9
                subst e8 e9
                obtain ⟨bj, oj, rfl, hbj, hLL3⟩ := hlj (by simp)
                obtain ⟨y0, -, -, -⟩ := w_at hLL3 0 (by simp)
                simp only [Nat.zero_mul, Nat.add_zero, List.getElem_cons_zero] at y0
                have HQN := Lib.hid (HQO.out.on (below_drewN (Below.refl _ _) nq))
                have HDN := Lib.hid (below_drewN HDX.out nq)
                obtain ⟨xs, xw, xk, xv⟩ := x
                simp only at y0 hs1 hs2
                rw [show popQ (⟨xs, xw, xk, xv⟩ :: r) = (⟨xs, xw, xk, xv⟩, r, true) from rfl] at HPP
                simp only [wV] at HPP
                simp only at HRI ⊢
                obtain ⟨S, rfl⟩ : ∃ S, xs = S + 1 := ⟨xs - 1, by omega⟩
                rw [show S + 1 - 1 = S by omega] at HRI ⊢
                obtain ⟨R, hRl⟩ : ∃ R, ((⟨S + 1, xw, xk, xv⟩ : Wr) :: r).length = R := ⟨_, rfl⟩
                have hR1 : r.length + 1 = R := by rw [← hRl, List.length_cons]
                rw [hRl] at f2 HPP hcj
                have hL3 : (L2.set j r).length = N0 := by rw [List.length_set]; have h1 := HN.out; have h2 := HM.out; rw [← h2, List.length_map]; exact h1
                have HST3 := Lib.hid (fun v W (hl : LRow W v (L2.set j r)) => HST.out (L2.set j r) v W hl (by omega) HO3.out HG3.out)
                have hst3 := stable_ok HG3.out k2
                have HP4 : Hid (pending (L2.set j r) = n - 1) := Lib.hid (by have h1 := HP3.out; have h2 := HPN.out; omega)
                have HM3 : Hid (∀ v, (rs2.set j (v, r)).map (·.2) = L2.set j r) := Lib.hid (fun v => by rw [List.map_set, HM.out])
                obtain ⟨A, hA⟩ : ∃ A, stable last (L2.set j r) = A := ⟨_, rfl⟩
                have hri := HRI.out
                rw [hA] at HST3 hst3 hri
                obtain ⟨L3, hL3e⟩ : ∃ L3, L2.set j r = L3 := ⟨_, rfl⟩
                rw [hL3e] at HST3 hA HG3 HO3 HP4 HM3
                have m3 : (0 : Int) < (R : Int) := by omega
                have m4 : 0 < R := by omega
                have m5 : (j : Int) < (N0 : Int) := by omega
                have m6 : ¬ (j : Int) < 0 := by omega
                have m7 : (0 : Int) ≤ (j : Int) := by omega
                have m8 : (R : Int) - 1 = (r.length : Int) := by omega
                have m9 : ¬ A < S := by omega
                have m10 : (n : Int) - 1 = ((n - 1 : Nat) : Int) := by omega
                have mE : ((r.length : Int) != (r.length : Int)) = false := by simp
                have hA1 := hst3.1
                have hA2 := hst3.2
                have hrl : r.length ≤ 100 := by omega
                have HNS := Lib.hid HN.out
                clear hx1 hx2 hLj hLe hST HRI HP3 hlj hLL3 HWJ HF hRl hL3e hL3 hst3 HGD2 HPN HO2 HDX HPO HST hri HM HN hjL hjL'
                simp only [atV]
                have HAe := Lib.hid hA
                clear hA hR1 hi hit
                go_wp2_with fail
                refine HPP.out.mono ?_
                rintro e w6 ⟨⟨v6, rfl, h6⟩, n6⟩
                have D6 := Lib.hid (HDN.out.trans (n6.mono HDN.out.size))
                have HQ6 := Lib.hid (HQN.out.on n6)
                have hPo : P < wo.heap.size := World.block_lt_of_cell? _ _ f2
                have f2 : w6.cell? ⟨P, j, none⟩ = some (.slice (some ⟨bj, oj, none⟩) R cj) := keepC n6 f2 hPo
                have hP6 := World.block_lt_of_cell? _ _ f2
                have H6 := Lib.hid h6
                obtain ⟨a6, c6, rfl, -, -⟩ := h6
                have z6 := (HQ6.out.1 j (by rw [HNS.out]; exact hjN)).2
                have HQ7 := Lib.hid (HQ6.out.set (k := j) (by rw [HNS.out]; exact hjN) H6.out)
                have D7 : Hid (Below w.heap.size w (w6.setCell ⟨P, j, none⟩ (.slice a6 r.length c6))) := Lib.hid (D6.out.setCell hPw _)
                have N8 := Lib.hid (aBelow (w6.setCell ⟨P, j, none⟩ (.slice a6 r.length c6)) (.cells #[.int .i64 (S + 1), .int .i64 xw, .string xk, .int .i64 xv] 29))
                have HQ8 := Lib.hid (HQ7.out.on N8.out)
                have D8 := Lib.hid (D7.out.trans (N8.out.mono D7.out.size))
                have HL8 := Lib.hid (HQ8.out.lrow (c := cp) (by rw [List.length_set, HNS.out]; exact hcp))
                rw [HM3.out, List.length_set, HNS.out] at HL8
                have HS8 := Lib.hid (HST3.out _ _ HL8.out)
                have HN8 : Hid ((rs2.set j (.slice a6 r.length c6, r)).length = N0) := Lib.hid (by rw [List.length_set, HNS.out])
                clear n6 HPP HQ6 D6 HDN HQN HST3 HL8 H6 HQ7 D7 N8 z2 HQO y0 hbj
                go_wp2_with fail
                refine HS8.out.mono ?_
                rintro e w9 ⟨rfl, n9⟩
                have D9 := Lib.hid (D8.out.trans (n9.mono D8.out.size))
                have HQ9 := Lib.hid (HQ8.out.on n9)
                clear n9 HS8 HQ8 D8
                go_wp2_with fail
                exact ⟨⟨_, L3, n - 1, by omega, by go_num, by rw [HAe.out], Lib.hid (HM3.out _), HN8, HQ9, HG3, HP4, HO3, D9⟩, by simp [intOf]; omega⟩
          · have j1 : ¬ (0 : Int) < (n : Int) := by omega
            have HE := Lib.hid (stable_end (last := last) (L := L2) (by rw [HPN.out]; omega))
            rw [HE.out]
            have q0 : (last == last) = true := by simp
            go_wp2_with fail
            go_ret
            exact ⟨rfl, HDX.out⟩
end Go.Proofs.Ytmgfgfkkhcibcaa.Se
