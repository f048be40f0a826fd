/- Changes applied to rows: a walk of the document's. -/
import Derived.Test.YtehgpibngalhfaaGreatDoorN7
namespace Go.Proofs.YtehgpibngalhfaaGreatDoor.Rw
open Go Go.RowKit Go.Sort Go.Lib Tg Pk Ky Qy Df

theorem ownsRow_lower {w : World} {base base' T k : Nat} {v : Value} {n : Nat} {xs : List Value} (hb : base' ≤ base) (h : w.ownsRow base T k v n xs) : w.ownsRow base' T k v n xs := by
  refine ⟨h.1, ?_⟩
  rcases h.2 with h0 | ⟨g, cap, cur, hv, hg, r⟩
  · exact Or.inl h0
  · exact Or.inr ⟨g, cap, cur, hv, Nat.le_trans hb hg, r⟩
theorem stepA_put {S : List Row} {c : Chg} (h1 : findR S c.r = -1) (hg : c.gone = false) : stepA S c = some (putR S c.r) := by
  unfold stepA; rw [if_pos (by rw [h1]; decide), if_neg (by simp [hg])]
theorem stepA_cut {S : List Row} {c : Chg} {j : Nat} (h1 : findR S c.r = (j : Int)) (hg : c.gone = true) : stepA S c = some (S.eraseIdx j) := by
  unfold stepA; rw [if_neg (by omega), if_pos hg, h1]; rfl
theorem stepA_set {S : List Row} {c : Chg} {j : Nat} (h1 : findR S c.r = (j : Int)) (hg : c.gone = false) : stepA S c = some (S.set j c.r) := by
  unfold stepA; rw [if_neg (by omega), if_neg (by simp [hg]), h1]; rfl
/-- A row of rows that the call made, in its block. -/
def OwnR (w : World) (base g cap : Nat) (S : List Row) : Prop := w.ownsRow base 45 4 (.slice (some ⟨g, 0, none⟩) S.length cap) S.length (flatG rowC S) ∧ base ≤ g ∧ g < w.heap.size ∧ S.length ≤ cap
theorem OwnR.on {w w1 : World} {base g cap : Nat} {S : List Row} (h : OwnR w base g cap S) (n : Below w.heap.size w w1) : OwnR w1 base g cap S :=
  ⟨own_on h.1 n, h.2.1, Nat.lt_of_lt_of_le h.2.2.1 n.size, h.2.2.2⟩
theorem OwnR.of {w : World} {base : Nat} {v : Value} {S : List Row} (h : w.ownsRow base 45 4 v S.length (flatG rowC S)) (hv : v ≠ .slice none 0 0) : ∃ g cap, v = .slice (some ⟨g, 0, none⟩) S.length cap ∧ OwnR w base g cap S := by
  have h' := h
  rcases h.2 with ⟨h0, _⟩ | ⟨g, cap, cur, e, hb, hg, hc, _⟩
  · exact absurd h0 hv
  · refine ⟨g, cap, e, ?_, hb, ?_, hc⟩
    · rw [← e]; exact h'
    · rcases Nat.lt_or_ge g w.heap.size with hlt | hge
      · exact hlt
      · rw [Array.getElem?_eq_none hge] at hg; cases hg
theorem OwnR.row {w : World} {base g cap : Nat} {S : List Row} (h : OwnR w base g cap S) : RRow w (.slice (some ⟨g, 0, none⟩) S.length cap) S := ownG_row rowC_len h.1
theorem OwnR.lies {w : World} {base g cap : Nat} {S : List Row} (h : OwnR w base g cap S) : RLies w g 0 S := (ownG_cells rowC_len rfl h.1).1

theorem liesG_take {β : Type} {enc : β → List Value} {k : Nat} {w : World} {b o : Nat} {S : List β} (h : GLies enc k w b o S) (j : Nat) : GLies enc k w b o (S.take j) := by
  intro i hi c u hu
  have hi' : i < S.length := by rw [List.length_take] at hi; omega
  rw [List.getElem_take] at hu
  exact h i hi' c u hu
theorem takeG_news {β : Type} {enc : β → List Value} {k : Nat} (hk : ∀ x, (enc x).length = k) (h0 : 0 < k) {w : World} {g : Nat} {S : List β} (h : GLies enc k w g 0 S) (hg : g < w.heap.size) (j : Nat) (o : Obj) : ∀ i u, (flatG enc (S.take j))[i]? = some u → (w.alloc o).drew.cell? ((⟨g, 0, none⟩ : Addr).add i) = some u := by
  intro i u hu
  rw [addr_add]
  show (w.alloc o).cell? _ = _
  rw [World.cell?_alloc_lt _ _ _ (show (⟨g, 0 + i, none⟩ : Addr).block < w.heap.size from hg)]
  exact (liesG_take h j).flat hk h0 i u hu
theorem newsG_drop {β : Type} {enc : β → List Value} {k : Nat} (hk : ∀ x, (enc x).length = k) (h0 : 0 < k) {w8 w1 : World} {h : Nat} {S : List β} {o : Obj} {row : Option Nat} (hL : GLies enc k w8 h 0 S) (hh : h < w8.heap.size) (hg : (w8.alloc o).drew.grownBy w1 row) (hne : some h ≠ row) (j : Nat) : ∀ i u, (flatG enc (S.drop j))[i]? = some u → w1.cell? ((⟨h, j * k, none⟩ : Addr).add i) = some u := by
  intro i u hu
  have h2 := liesG_drop hL j
  rw [Nat.zero_add] at h2
  rw [addr_add, hg.cell_far _ (by simp; omega) hne]
  show (w8.alloc o).cell? _ = _
  rw [World.cell?_alloc_lt _ _ _ (show (⟨h, j * k + i, none⟩ : Addr).block < w8.heap.size from hh)]
  exact h2.flat hk h0 i u hu
/-- What stands behind 'append(append([]T{}, l[:at]...), l[at+1:]...)'. -/
theorem after19G {β : Type} {enc : β → List Value} {k : Nat} {w w5 w1 w1' w2 : World} {v1 v2 : Value} {o : Obj} {base T j : Nat} {S : List β} (hj : j < S.length) (hb : base ≤ w5.heap.size) (d5 : Below base w w5)
    (hown1 : w1.ownsRow base T k v1 (0 + j) ([] ++ flatG enc (S.take j))) (hgrow1 : (w5.alloc o).drew.grownBy w1 (some w5.heap.size))
    (hown2 : w2.ownsRow base T k v2 (0 + j + (S.length - (j + 1))) ([] ++ flatG enc (S.take j) ++ flatG enc (S.drop (j + 1)))) (hgrow2 : w1'.grownBy w2 v1.ownBlock) (hh : w1'.heap = w1.heap) (ho : w1'.os = w1.os) (ht : w1'.tape = w1.tape) (hu : w1'.output = w1.output) :
    w2.ownsRow base T k v2 (S.eraseIdx j).length (flatG enc (S.eraseIdx j)) ∧ Below base w w2 := by
  refine ⟨?_, ?_⟩
  · have e1 : flatG enc (S.eraseIdx j) = [] ++ flatG enc (S.take j) ++ flatG enc (S.drop (j + 1)) := by
      rw [List.eraseIdx_eq_take_drop_succ, flatG_append]; rfl
    have e2 : (S.eraseIdx j).length = 0 + j + (S.length - (j + 1)) := by
      rw [List.length_eraseIdx_of_lt hj]; omega
    rw [e1, e2]
    exact hown2
  · have d1 : Below base w w1 := ((d5.alloc hb _).drew).grown hgrow1 (by simp; omega) (fun k hk => by cases hk; exact hb)
    have hs1 : base ≤ w1.heap.size := by
      have := hgrow1.size
      simp at this
      omega
    have d1' : Below base w w1' := ⟨ho.trans d1.os, ht.trans d1.tape, hu.trans d1.output, by rw [hh]; exact d1.size, fun b hb => by rw [hh]; exact d1.block b hb⟩
    exact d1'.grown hgrow2 (by rw [hh]; exact hs1) (fun k hk => (hown1.lt k hk).1)

theorem flat_setR : ∀ (S : List Row) (j : Nat) (_ : j < S.length) (r : Row), flatG rowC (S.set j r) = ((((flatG rowC S).set (j * 4) (.int .i64 r.win)).set (j * 4 + 1) (.string r.grp)).set (j * 4 + 2) (.int .i64 r.n)).set (j * 4 + 3) (.bool r.ov)
  | [], _, hj, _ => by simp at hj
  | y :: t, 0, _, r => rfl
  | y :: t, j + 1, hj, r => by
    have ih := flat_setR t j (by simpa using hj) r
    have a0 : (j + 1) * 4 = (j * 4) + 4 := by omega
    have a1 : j * 4 + 4 + 1 = (j * 4 + 1) + 4 := by omega
    have a2 : j * 4 + 4 + 2 = (j * 4 + 2) + 4 := by omega
    have a3 : j * 4 + 4 + 3 = (j * 4 + 3) + 4 := by omega
    show rowC y ++ flatG rowC (t.set j r) = _
    rw [ih, a0, a1, a2, a3]
    rfl
theorem OwnR.set {w : World} {base g cap : Nat} {S : List Row} (h : OwnR w base g cap S) {j : Nat} (hj : j < S.length) (r : Row) : OwnR ((((w.setCell ⟨g, j * 4, none⟩ (.int .i64 r.win)).setCell ⟨g, j * 4 + 1, none⟩ (.string r.grp)).setCell ⟨g, j * 4 + 2, none⟩ (.int .i64 r.n)).setCell ⟨g, j * 4 + 3, none⟩ (.bool r.ov)) base g cap (S.set j r) := by
  obtain ⟨h1, h2, h3, h4⟩ := h
  have s1 := h1.stored (j * 4) (.int .i64 r.win)
  have s2 := s1.1.stored (j * 4 + 1) (.string r.grp)
  have s3 := s2.1.stored (j * 4 + 2) (.int .i64 r.n)
  have s4 := s3.1.stored (j * 4 + 3) (.bool r.ov)
  refine ⟨?_, h2, ?_, by rw [List.length_set]; exact h4⟩
  · rw [flat_setR S j hj r, List.length_set]; exact s4.1
  · exact Nat.lt_of_lt_of_le h3 (Nat.le_trans s1.2.size (Nat.le_trans s2.2.size (Nat.le_trans s3.2.size s4.2.size)))

theorem new1Rd (w : World) (x : Row) : ∀ j u, (rowC x)[j]? = some u → (w.alloc (.cells #[.int .i64 x.win, .string x.grp, .int .i64 x.n, .bool x.ov] 45)).drew.cell? ((⟨w.heap.size, 0, none⟩ : Addr).add j) = some u := new1R w x

set_option maxRecDepth 100000 in
set_option maxHeartbeats 4000000 in
theorem refApply_left (v1 v2 : Value) (l : List Row) (w : World) (h1 : RRow w v1 l) (hn1 : l.length ≤ 1000) (hs1 : ∀ x ∈ l, x.grp.size ≤ 900) (hr : rright l = false) :
    Calls Tryz.prog 18 #[v1, v2] w fun e w' => e = .returned (.tuple #[.slice none 0 0, .int .i64 9]) ∧ Below w.heap.size w w' := by
  have HK := Lib.hid (refRright_any v1 l w h1 (by omega) hs1)
  rw [hr] at HK
  clear h1 hs1
  go_enter Tryz.func18, Tryz.ntmps18
  go_wp2_with fail
  refine (HK.out).mono ?_
  rintro e w2 ⟨rfl, n2⟩
  go_wp2_with fail
  go_ret2
  exact ⟨rfl, n2⟩
set_option maxRecDepth 100000 in
set_option maxHeartbeats 4000000 in
theorem refApply_right (v1 v2 : Value) (l : List Row) (cs : List Chg) (w : World) (h1 : RRow w v1 l) (h2 : CRow w v2 cs) (hn1 : l.length ≤ 1000) (hn2 : cs.length ≤ 1000) (hs1 : ∀ x ∈ l, x.grp.size ≤ 900) (hs2 : ∀ x ∈ cs, x.r.grp.size ≤ 900) (hr : rright l = true) (hr2 : cright cs = false) :
    Calls Tryz.prog 18 #[v1, v2] w fun e w' => e = .returned (.tuple #[.slice none 0 0, .int .i64 9]) ∧ Below w.heap.size w w' := by
  have HK := Lib.hid (refRright_any v1 l w h1 (by omega) hs1)
  have HK2 := Lib.hid (fun W (n : Below w.heap.size w W) => refCright_any v2 cs W (h2.on n) (by omega) hs2)
  rw [hr] at HK
  rw [hr2] at HK2
  clear h1 hs1 h2 hs2
  go_enter Tryz.func18, Tryz.ntmps18
  go_wp2_with fail
  refine (HK.out).mono ?_
  rintro e w2 ⟨rfl, n2⟩
  go_wp2_with fail
  refine (HK2.out _ n2).mono ?_
  rintro e w3 ⟨rfl, n3⟩
  go_wp2_with fail
  go_ret2
  exact ⟨rfl, n2.trans (n3.mono n2.size)⟩

set_option maxRecDepth 100000 in
set_option maxHeartbeats 16000000 in
theorem refApply_some (ad : Addr) (c1 : Nat) (v2 : Value) (l : List Row) (cs : List Chg) (w : World) (h1 : RRow w (.slice (some ad) l.length c1) l) (h2 : CRow w v2 cs) (hn1 : l.length ≤ 400) (hn2 : cs.length ≤ 400) (hs1 : ∀ x ∈ l, x.grp.size ≤ 900) (hs2 : ∀ x ∈ cs, x.r.grp.size ≤ 900) (hr : rright l = true) (hr2 : cright cs = true) :
    Calls Tryz.prog 18 #[.slice (some ad) l.length c1, v2] w fun e w' => ((∃ m v', applyD l cs = some m ∧ e = .returned (.tuple #[v', .int .i64 0]) ∧ RRow w' v' m) ∨ (applyD l cs = none ∧ e = .returned (.tuple #[.slice none 0 0, .int .i64 6]))) ∧ Below w.heap.size w w' := by
  have HK := Lib.hid (refRright_any _ l w h1 (by omega) hs1)
  have HK2 := Lib.hid (fun W (n : Below w.heap.size w W) => refCright_any v2 cs W (h2.on n) (by omega) hs2)
  rw [hr] at HK
  rw [hr2] at HK2
  obtain ⟨j0, hi, hz0, hz1, hz2⟩ := info29
  have HI := Lib.hid (And.intro hi (And.intro hz0 (And.intro hz1 hz2)))
  clear hi hz0 hz1 hz2
  have hnews : ∀ W : World, Below w.heap.size w W → ∀ j u, (flatG rowC l)[j]? = some u → (W.alloc (Obj.cells #[] 45)).cell? (ad.add j) = some u := by
    intro W d j u hu
    have hne : l ≠ [] := fun e => by subst e; simp [flatG] at hu
    obtain ⟨b, o, c, hv, _, hb, hL⟩ := (h1.on d).open hne
    cases hv
    rw [addr_add, World.cell?_alloc_lt _ _ _ hb]
    exact hL.flat rowC_len (by decide) j u hu
  have HNW := Lib.hid hnews
  obtain ⟨a2, c2, rfl, _, hl2⟩ := h2
  have HL2 := Lib.hid hl2
  clear h1 hnews hl2 hs1 hs2
  go_enter Tryz.func18, Tryz.ntmps18
  go_wp2_with fail
  refine (HK.out).mono ?_
  rintro e w2 ⟨rfl, n2⟩
  go_wp2_with fail
  refine (HK2.out _ n2).mono ?_
  rintro e w3 ⟨rfl, n3⟩
  have d3 := n2.trans (n3.mono n2.size)
  have HN := Lib.hid (HNW.out w3 d3)
  clear n2 n3 HK HK2 HNW
  go_wp2_with (first | (at_builtin; refine wpList_append_own _ rfl _ _ 22 rfl w3.heap.size 45 j0 (.agg #[.int .i64 0, .string ⟨#[]⟩, .int .i64 0, .bool false]) 4 40 Tryz.underlying22 HI.out.1 HI.out.2.1 HI.out.2.2.1 HI.out.2.2.2 rfl (by decide) _ _ _ rfl (World.ownsRow_made w3 #[] 0 (Nat.le_refl _) (Nat.zero_le _) (by simp)) ad l.length c1 (flatG rowC l) rfl (flatG_len rowC_len l) HN.out (flatG_cells1 rowC_one l) (by unfold maxLen; omega) (by omega) (by simp) ?_; intro vo w4 hown4 hgrow4 hnil4; have hO4 : w4.ownsRow w3.heap.size 45 4 vo l.length (flatG rowC l) := (by simpa using hown4); have n4 : Below w3.heap.size w3 w4 := ((Below.refl _ _).alloc (Nat.le_refl _) _).grown hgrow4 (by simp) (fun k hk => by cases hk; exact Nat.le_refl _); obtain ⟨og, ocap, rfl, O4⟩ := OwnR.of hO4 (fun e => by have := (hnil4.1 e).1; cases this); have HO4 : Hid (OwnR w4 w.heap.size og ocap l) := ⟨ownsRow_lower d3.size O4.1, Nat.le_trans d3.size O4.2.1, O4.2.2⟩; have d4 := d3.trans (n4.mono d3.size); clear hown4 hgrow4 hnil4 hO4 n4 O4))
  clear HN
  go_loopw [6, 7] (fun out i wr => ∃ (k : Nat) (S : List Row) (g cap : Nat), k ≤ cs.length ∧ i = .int .i64 k ∧ out = .slice (some ⟨g, 0, none⟩) S.length cap ∧ S.length ≤ l.length + k ∧ Hid (OwnR wr w.heap.size g cap S) ∧ Hid (applyD l (cs.take k) = some S) ∧ Hid (Below w.heap.size w wr)) (fun _ i _ => cs.length - (intOf i).toNat)
  case atStart => exact ⟨0, l, og, ocap, Nat.zero_le _, rfl, rfl, Nat.le_refl _, HO4, applyD_nil l, d4⟩
  case round =>
    obtain ⟨k, S, g, cap, hk, rfl, rfl, hSl, HO, HA, HD⟩ := hrel
    by_cases hlt : k < cs.length
    · obtain ⟨b1, o1, rfl, hb, hL⟩ := HL2.out (ne_of_lt hlt)
      have HC := c_at hL k hlt
      obtain ⟨e1, e2, e3, e4, e5⟩ := c_at (hL.on hb HD.out) k hlt
      have i1 : (k : Int) < (cs.length : Int) := by omega
      have i2 : (0 : Int) ≤ (k : Int) := by omega
      have hz := (HD.out).size
      have HN := fun o => Lib.hid (fun (h : stepA S cs[k] = some o) => applyD_next hlt HA.out h)
      have HX := Lib.hid (fun (h : stepA S cs[k] = none) => applyD_stop hlt HA.out h)
      have HF := fun W (O : OwnR W w.heap.size g cap S) => refFind_any _ S (cs[k]).r W O.row (by omega)
      generalize cs[k] = c at *
      have hcs := findR_cases S c.r
      obtain ⟨⟨x1, x2, x3, x4⟩, x5⟩ := c
      simp only at e1 e2 e3 e4 e5 HF HC hcs
      have HF := Lib.hid HF
      clear hL HA
      go_wp2_with fail
      have na := aBelow wr (.cells #[.int .i64 x1, .string x2, .int .i64 x3, .bool x4, .bool x5] 47)
      refine (HF.out _ (HO.out.on na)).mono ?_
      rintro e w5 ⟨rfl, g5⟩
      have n5 := na.trans (g5.below.mono na.size)
      have X := Lib.hid ((CX.new wr ⟨⟨x1, x2, x3, x4⟩, x5⟩).on g5.below)
      have HO := Lib.hid (HO.out.on n5)
      have hd := (HD.out).trans (n5.mono hz)
      have hz5 := Nat.le_trans hz n5.size
      clear hz
      generalize wr.heap.size = xb at *
      have hz := hz5
      clear na n5 g5 HF HD e1 e2 e3 e4 e5 HC
      rcases hcs with ⟨h1, h2⟩ | ⟨j, hj, h1, _, _⟩
      · rw [h1]
        cases x5
        · have HM := Lib.hid ((HN _).out (stepA_put h1 rfl))
          clear HN HX h1
          obtain ⟨x0, x1', x2', x3', x4'⟩ := X.out
          simp only at x0 x1' x2' x3' x4'
          have hg1 := HO.out.2.1
          have hcap := HO.out.2.2.2
          go_wp2_with fail
          clear x0 x1' x2' x3' x4' h2
          go_loopw [9] (fun at' wr2 => ∃ (j : Nat), j ≤ S.length ∧ at' = .int .i64 j ∧ Hid (∀ i (h : i < S.length), i < j → rlt S[i] ⟨x1, x2, x3, x4⟩ = true) ∧ Hid (Gw w5 wr2)) (fun i _ => S.length - (intOf i).toNat)
          case atStart => exact ⟨0, Nat.zero_le _, rfl, fun _ _ h => absurd h (Nat.not_lt_zero _), Gw.refl _⟩
          case round =>
            obtain ⟨j, hj, rfl, HJ, HG⟩ := hrel
            have HO := Lib.hid (HO.out.on HG.out.below)
            have X := Lib.hid (X.out.on HG.out.below)
            have hd := hd.trans (HG.out.below.mono hz)
            have hz := Nat.le_trans hz HG.out.below.size
            have hg2 := HO.out.2.2.1
            have j2 : (0 : Int) ≤ (j : Int) := by omega
            have j4 : (j : Int) ≤ (cap : Int) := by omega
            have j5 : (j : Int) ≤ (S.length : Int) := by omega
            by_cases hjl : j < S.length
            · obtain ⟨f0, f1, f2, f3⟩ := r_at HO.out.lies j hjl
              rw [Nat.zero_add] at f0 f1 f2 f3
              obtain ⟨x0, x1', x2', x3', x4'⟩ := X.out
              simp only at x0 x1' x2' x3' x4'
              have j1 : (j : Int) < (S.length : Int) := by omega
              have HB := fun W => refBefore_any S[j] ⟨x1, x2, x3, x4⟩ W
              have HR1 : Hid (rlt S[j] ⟨x1, x2, x3, x4⟩ = true → ∀ i (h : i < S.length), i < j + 1 → rlt S[i] ⟨x1, x2, x3, x4⟩ = true) := by
                intro hq i h hi
                rcases Nat.lt_or_ge i j with g1 | g1
                · exact HJ.out i h g1
                · have : i = j := by omega
                  subst this
                  exact hq
              have HR2 : Hid (rlt S[j] ⟨x1, x2, x3, x4⟩ = false → putR S ⟨x1, x2, x3, x4⟩ = S.take j ++ ⟨x1, x2, x3, x4⟩ :: S.drop j) := fun h => putR_at S ⟨x1, x2, x3, x4⟩ j hj HJ.out (fun _ => h)
              have HJl := Lib.hid hjl
              have hcj : ¬ cap = j := by omega
              have HS : Hid (TwoB g (j * 4) xb 0 S[j].win S[j].grp S[j].n S[j].ov x1 x2 x3 x4 wr wr.drew) := ⟨f0, f1, f2, f3, x0, x1', x2', x3', (Gw.refl _).drew⟩
              generalize rlt S[j] ⟨x1, x2, x3, x4⟩ = R at *
              generalize S[j] = y at *
              have HB2 : Hid (∀ W, Calls Tryz.prog 38 #[.agg #[.int .i64 y.win, .string y.grp, .int .i64 y.n, .bool y.ov], .agg #[.int .i64 x1, .string x2, .int .i64 x3, .bool x4]] W fun e w' => e = .returned (.bool R) ∧ Gw W w') := HB
              clear HB HJ hjl x4'
              go_wp2_with fail
              have hS := HS.out
              unfold TwoB at hS
              clear f0 f1 f2 f3 x0 x1' x2' x3'
              go_region_held3 (fun w' => w'.cell? ⟨g, j * 4, none⟩ = some (.int .i64 y.win) ∧ w'.cell? ⟨g, j * 4 + 1, none⟩ = some (.string y.grp) ∧ w'.cell? ⟨g, j * 4 + 2, none⟩ = some (.int .i64 y.n) ∧ w'.cell? ⟨g, j * 4 + 3, none⟩ = some (.bool y.ov) ∧ w'.cell? ⟨xb, 0, none⟩ = some (.int .i64 x1) ∧ w'.cell? ⟨xb, 0 + 1, none⟩ = some (.string x2) ∧ w'.cell? ⟨xb, 0 + 2, none⟩ = some (.int .i64 x3) ∧ w'.cell? ⟨xb, 0 + 3, none⟩ = some (.bool x4) ∧ Gw wr w') (first | exact hS | exact hS3) (first
                | (go_at_call 38; refine (HB2.out _).mono ?_; rintro e w6 ⟨rfl, g3⟩; have hS3 := TwoB.on HS.out g3; unfold TwoB at hS3)
                | fail)
              have G := Lib.hid hS3.2.2.2.2.2.2.2.2
              clear hS3 hS HS g3 HB2
              cases R
              · have HP := Lib.hid (HR2.out rfl)
                have HO := Lib.hid (HO.out.on G.out.below)
                have X := Lib.hid (X.out.on G.out.below)
                have hd := hd.trans (G.out.below.mono hz)
                have hz := Nat.le_trans hz G.out.below.size
                have hg2 := HO.out.2.2.1
                have HLS := Lib.hid HO.out.lies
                clear HR1 HR2 HG G
                go_wp2_with (first | (at_builtin; refine wpList_append_own _ rfl _ _ 22 rfl w6.heap.size 45 j0 (.agg #[.int .i64 0, .string ⟨#[]⟩, .int .i64 0, .bool false]) 4 40 Tryz.underlying22 HI.out.1 HI.out.2.1 HI.out.2.2.1 HI.out.2.2.2 rfl (by decide) _ _ _ rfl (World.ownsRow_made w6 #[] 0 (Nat.le_refl _) (Nat.zero_le _) (by simp)) ⟨g, j * 4, none⟩ (S.length - j) _ (flatG rowC (S.drop j)) rfl (by rw [flatG_len rowC_len, List.length_drop]) (dropG_news (q := 0) rowC_len (by decide) HLS.out hg2 j _) (flatG_cells1 rowC_one _) (by unfold maxLen; omega) (by omega) (by simp) ?_; intro v8 w8 hown8 hgrow8 hnil8))
                obtain ⟨h8, cap8, rfl, hh1, hh2, hL8, HO8, n8⟩ := after17G (q := 0) rowC_len HO.out.1 hg2 hown8 hgrow8 (fun e => by have := (hnil8.1 e).1; cases this)
                have hS8 := X.out.on n8
                have HO8 := Lib.hid HO8
                have HL8 := Lib.hid hL8
                have d8 := hd.trans (n8.mono hz)
                have hd8 := n8.size
                clear hown8 hgrow8 hnil8 hL8 n8 HLS HO X
                go_wp2_with fail
                obtain ⟨s0, s1, s2, s3, s4⟩ := hS8
                simp only at s0 s1 s2 s3 s4
                go_region_law (first
                  | (rename_i Kx hKx; have hq := H1; refine step_append_own _ (by rfl) _ _ _ (by rfl) w.heap.size 45 j0 _ 4 40 Tryz.underlying22 HI.out.1 HI.out.2.1 HI.out.2.2.1 HI.out.2.2.2 rfl (by omega) v1 (j + 1) (flatG rowC (S.take j) ++ rowC ⟨x1, x2, x3, x4⟩) (by rfl) H1.out.1 ⟨h8, 0, none⟩ (S.length - j) cap8 (flatG rowC (S.drop j)) (by rfl) (by rw [flatG_len rowC_len, List.length_drop]) (newsG_far rowC_len (by decide) HL8.out hh2 H1.out.2.1 (by simp [Value.ownBlock]; omega)) (flatG_cells1 rowC_one _) (by unfold maxLen; omega) (by omega) (by have := H1.out.2.1.size; simp at this ⊢; omega) ?_; intro v2 w2 hown2 hgrow2 hnil2; have H2 := Lib.hid (And.intro hown2 (And.intro hgrow2 hnil2)); clear hown2 hgrow2 hnil2 hq; refine hKx _ _ ?_; clear hKx Kx)
                  | (rename_i Kx hKx; refine step_append_own _ (by rfl) _ _ _ (by rfl) w.heap.size 45 j0 _ 4 40 Tryz.underlying22 HI.out.1 HI.out.2.1 HI.out.2.2.1 HI.out.2.2.2 rfl (by omega) (.slice (some ⟨g, 0, none⟩) j cap) j (flatG rowC (S.take j)) (by rfl) (((ownG_cut rowC_len HO8.out j hj).alloc _).drew) ⟨w8.heap.size, 0, none⟩ 1 1 (rowC ⟨x1, x2, x3, x4⟩) (by rfl) (by rfl) (new1Rd w8 ⟨x1, x2, x3, x4⟩) (rowC_one _) (by unfold maxLen; omega) (by omega) (by simp; omega) ?_; intro v1 w1 hown1 hgrow1 hnil1; have H1 := Lib.hid (And.intro hown1 (And.intro hgrow1 hnil1)); clear hown1 hgrow1 hnil1; refine hKx _ _ ?_; clear hKx Kx)
                  | fail)
                clear s0 s1 s2 s3 s4
                obtain ⟨HO2, d2⟩ := after18G hj (by omega) d8 (v0 := .slice (some ⟨g, 0, none⟩) j cap) (fun k hk => by cases hk; exact hg1) H1.out.1 H1.out.2.1 H2.out.1 H2.out.2.1 rfl rfl rfl rfl
                rw [← HP.out] at HO2
                obtain ⟨g9, cap9, rfl, O9⟩ := OwnR.of HO2 (fun e => by have q := (H1.out.2.2.1 (H2.out.2.2.1 e).1).1; cases q)
                have HO9 := Lib.hid O9
                have hl9 : (putR S ⟨x1, x2, x3, x4⟩).length ≤ l.length + (k + 1) := by rw [putR_len]; omega
                clear H1 H2 HO8 O9 HO2
                go_wp2_with fail
                exact ⟨⟨k + 1, putR S ⟨x1, x2, x3, x4⟩, g9, cap9, by omega, by go_num, rfl, hl9, HO9, HM, d2⟩, by simp [intOf]; omega⟩
              · have HJ2 := Lib.hid (HR1.out rfl)
                have G2 := Lib.hid (HG.out.trans G.out)
                clear HR1 HR2 HO X
                go_wp2_with fail
                exact ⟨⟨j + 1, by have := HJl.out; omega, by go_num, HJ2, G2⟩, by have := HJl.out; simp [intOf]; omega⟩
            · have j1 : decide ((j : Int) < (S.length : Int)) = false := decide_eq_false (by omega)
              have j3 : decide (j < S.length) = false := decide_eq_false (by omega)
              have HDr := Lib.hid (show S.drop j = [] from List.drop_of_length_le (by omega))
              have HP : Hid (putR S ⟨x1, x2, x3, x4⟩ = S.take j ++ ⟨x1, x2, x3, x4⟩ :: S.drop j) := putR_at S ⟨x1, x2, x3, x4⟩ j hj HJ.out (fun h => absurd h hjl)
              clear HJ HG
              go_wp2_with fail
              go_quiet (fail)
              have G : Hid (Gw wr (wr.drewN nq)) := (Gw.refl wr).drewN nq
              generalize wr.drewN nq = w6 at *
              have HO := Lib.hid (HO.out.on G.out.below)
              have X := Lib.hid (X.out.on G.out.below)
              have hd := hd.trans (G.out.below.mono hz)
              have hz := Nat.le_trans hz G.out.below.size
              have hg2 := HO.out.2.2.1
              have HLS := Lib.hid HO.out.lies
              clear G
              by_cases hcj : cap = j
              · have hcj2 : j = cap := hcj.symm
                clear hcj
                subst hcj2
                go_wp2_with fail
                have n8 := aBelow w6 (Obj.cells #[] 45)
                have HO8 := HO.out.1.alloc (Obj.cells #[] 45)
                have hw8 : w6.heap.size < (w6.alloc (Obj.cells #[] 45)).heap.size := by simp
                have hS8 := X.out.on n8
                have d8 := hd.trans (n8.mono hz)
                have hd8 := n8.size
                clear HLS HO X n8
                generalize w6.alloc (Obj.cells #[] 45) = w8 at *
                have HO8 := Lib.hid HO8
                obtain ⟨s0, s1, s2, s3, s4⟩ := hS8
                simp only at s0 s1 s2 s3 s4
                go_region_law (first
                  | (rename_i Kx hKx; have hq := H1; refine step_append_own _ (by rfl) _ _ _ (by rfl) w.heap.size 45 j0 _ 4 40 Tryz.underlying22 HI.out.1 HI.out.2.1 HI.out.2.2.1 HI.out.2.2.2 rfl (by omega) v1 (j + 1) (flatG rowC (S.take j) ++ rowC ⟨x1, x2, x3, x4⟩) (by rfl) H1.out.1 ⟨w6.heap.size, 0, none⟩ 0 0 [] (by rfl) (by rfl) (fun i u hu => by simp at hu) (fun u hu => by cases hu) (by unfold maxLen; omega) (by omega) (by have := H1.out.2.1.size; simp at this ⊢; omega) ?_; intro v2 w2 hown2 hgrow2 hnil2; have H2 := Lib.hid (And.intro hown2 (And.intro hgrow2 hnil2)); clear hown2 hgrow2 hnil2 hq; refine hKx _ _ ?_; clear hKx Kx)
                  | (rename_i Kx hKx; refine step_append_own _ (by rfl) _ _ _ (by rfl) w.heap.size 45 j0 _ 4 40 Tryz.underlying22 HI.out.1 HI.out.2.1 HI.out.2.2.1 HI.out.2.2.2 rfl (by omega) (.slice (some ⟨g, 0, none⟩) j j) j (flatG rowC (S.take j)) (by rfl) (((ownG_cut rowC_len HO8.out j hj).alloc _).drew) ⟨w8.heap.size, 0, none⟩ 1 1 (rowC ⟨x1, x2, x3, x4⟩) (by rfl) (by rfl) (new1Rd w8 ⟨x1, x2, x3, x4⟩) (rowC_one _) (by unfold maxLen; omega) (by omega) (by simp; omega) ?_; intro v1 w1 hown1 hgrow1 hnil1; have H1 := Lib.hid (And.intro hown1 (And.intro hgrow1 hnil1)); clear hown1 hgrow1 hnil1; refine hKx _ _ ?_; clear hKx Kx)
                  | fail)
                clear s0 s1 s2 s3 s4
                have hSj : S.length - j = 0 := by omega
                obtain ⟨HO2, d2⟩ := after18G hj (by omega) d8 (v0 := .slice (some ⟨g, 0, none⟩) j j) (fun k hk => by cases hk; exact hg1) H1.out.1 H1.out.2.1 (by rw [hSj, HDr.out]; exact H2.out.1) H2.out.2.1 rfl rfl rfl rfl
                rw [← HP.out] at HO2
                obtain ⟨g9, cap9, rfl, O9⟩ := OwnR.of HO2 (fun e => by have q := (H1.out.2.2.1 (H2.out.2.2.1 e).1).1; cases q)
                have HO9 := Lib.hid O9
                have hl9 : (putR S ⟨x1, x2, x3, x4⟩).length ≤ l.length + (k + 1) := by rw [putR_len]; omega
                clear H1 H2 HO8 O9 HO2
                go_wp2_with fail
                exact ⟨⟨k + 1, putR S ⟨x1, x2, x3, x4⟩, g9, cap9, by omega, by go_num, rfl, hl9, HO9, HM, d2⟩, by simp [intOf]; omega⟩
              · clear HDr
                go_wp2_with (first | (at_builtin; refine wpList_append_own _ rfl _ _ 22 rfl w6.heap.size 45 j0 (.agg #[.int .i64 0, .string ⟨#[]⟩, .int .i64 0, .bool false]) 4 40 Tryz.underlying22 HI.out.1 HI.out.2.1 HI.out.2.2.1 HI.out.2.2.2 rfl (by decide) _ _ _ rfl (World.ownsRow_made w6 #[] 0 (Nat.le_refl _) (Nat.zero_le _) (by simp)) ⟨g, j * 4, none⟩ (S.length - j) _ (flatG rowC (S.drop j)) rfl (by rw [flatG_len rowC_len, List.length_drop]) (dropG_news (q := 0) rowC_len (by decide) HLS.out hg2 j _) (flatG_cells1 rowC_one _) (by unfold maxLen; omega) (by omega) (by simp) ?_; intro v8 w8 hown8 hgrow8 hnil8))
                obtain ⟨h8, cap8, rfl, hh1, hh2, hL8, HO8, n8⟩ := after17G (q := 0) rowC_len HO.out.1 hg2 hown8 hgrow8 (fun e => by have := (hnil8.1 e).1; cases this)
                have hS8 := X.out.on n8
                have HO8 := Lib.hid HO8
                have HL8 := Lib.hid hL8
                have d8 := hd.trans (n8.mono hz)
                have hd8 := n8.size
                clear hown8 hgrow8 hnil8 hL8 n8 HLS HO X
                go_wp2_with fail
                obtain ⟨s0, s1, s2, s3, s4⟩ := hS8
                simp only at s0 s1 s2 s3 s4
                go_region_law (first
                  | (rename_i Kx hKx; have hq := H1; refine step_append_own _ (by rfl) _ _ _ (by rfl) w.heap.size 45 j0 _ 4 40 Tryz.underlying22 HI.out.1 HI.out.2.1 HI.out.2.2.1 HI.out.2.2.2 rfl (by omega) v1 (j + 1) (flatG rowC (S.take j) ++ rowC ⟨x1, x2, x3, x4⟩) (by rfl) H1.out.1 ⟨h8, 0, none⟩ (S.length - j) cap8 (flatG rowC (S.drop j)) (by rfl) (by rw [flatG_len rowC_len, List.length_drop]) (newsG_far rowC_len (by decide) HL8.out hh2 H1.out.2.1 (by simp [Value.ownBlock]; omega)) (flatG_cells1 rowC_one _) (by unfold maxLen; omega) (by omega) (by have := H1.out.2.1.size; simp at this ⊢; omega) ?_; intro v2 w2 hown2 hgrow2 hnil2; have H2 := Lib.hid (And.intro hown2 (And.intro hgrow2 hnil2)); clear hown2 hgrow2 hnil2 hq; refine hKx _ _ ?_; clear hKx Kx)
                  | (rename_i Kx hKx; refine step_append_own _ (by rfl) _ _ _ (by rfl) w.heap.size 45 j0 _ 4 40 Tryz.underlying22 HI.out.1 HI.out.2.1 HI.out.2.2.1 HI.out.2.2.2 rfl (by omega) (.slice (some ⟨g, 0, none⟩) j cap) j (flatG rowC (S.take j)) (by rfl) (((ownG_cut rowC_len HO8.out j hj).alloc _).drew) ⟨w8.heap.size, 0, none⟩ 1 1 (rowC ⟨x1, x2, x3, x4⟩) (by rfl) (by rfl) (new1Rd w8 ⟨x1, x2, x3, x4⟩) (rowC_one _) (by unfold maxLen; omega) (by omega) (by simp; omega) ?_; intro v1 w1 hown1 hgrow1 hnil1; have H1 := Lib.hid (And.intro hown1 (And.intro hgrow1 hnil1)); clear hown1 hgrow1 hnil1; refine hKx _ _ ?_; clear hKx Kx)
                  | fail)
                clear s0 s1 s2 s3 s4
                obtain ⟨HO2, d2⟩ := after18G hj (by omega) d8 (v0 := .slice (some ⟨g, 0, none⟩) j cap) (fun k hk => by cases hk; exact hg1) H1.out.1 H1.out.2.1 H2.out.1 H2.out.2.1 rfl rfl rfl rfl
                rw [← HP.out] at HO2
                obtain ⟨g9, cap9, rfl, O9⟩ := OwnR.of HO2 (fun e => by have q := (H1.out.2.2.1 (H2.out.2.2.1 e).1).1; cases q)
                have HO9 := Lib.hid O9
                have hl9 : (putR S ⟨x1, x2, x3, x4⟩).length ≤ l.length + (k + 1) := by rw [putR_len]; omega
                clear H1 H2 HO8 O9 HO2
                go_wp2_with fail
                exact ⟨⟨k + 1, putR S ⟨x1, x2, x3, x4⟩, g9, cap9, by omega, by go_num, rfl, hl9, HO9, HM, d2⟩, by simp [intOf]; omega⟩
        · have HM := Lib.hid (HX.out (stepA_none.2 ⟨rfl, h2⟩))
          clear HN HX h1
          obtain ⟨x0, x1', x2', x3', x4'⟩ := X.out
          simp only at x0 x1' x2' x3' x4'
          go_wp2_with fail
          go_ret2
          exact ⟨Or.inr ⟨HM.out, rfl⟩, hd⟩
      · rw [h1]
        have j1 : (0 : Int) ≤ (j : Int) := by omega
        have j2 : (j : Int) < (S.length : Int) := by omega
        have j3 : ¬ (j : Int) < 0 := by omega
        cases x5
        · have HM := Lib.hid ((HN _).out (stepA_set h1 rfl))
          clear HN HX h1
          obtain ⟨x0, x1', x2', x3', x4'⟩ := X.out
          simp only at x0 x1' x2' x3' x4'
          obtain ⟨f0, f1, f2, f3⟩ := r_at HO.out.lies j hj
          rw [Nat.zero_add] at f0 f1 f2 f3
          have z0 := HO.out.1.frozenAt (j * 4)
          have z1 := HO.out.1.frozenAt (j * 4 + 1)
          have z2 := HO.out.1.frozenAt (j * 4 + 2)
          have z3 := HO.out.1.frozenAt (j * 4 + 3)
          have Q : Hid (OwnR ((((w5.setCell ⟨g, j * 4, none⟩ (.int .i64 x1)).setCell ⟨g, j * 4 + 1, none⟩ (.string x2)).setCell ⟨g, j * 4 + 2, none⟩ (.int .i64 x3)).setCell ⟨g, j * 4 + 3, none⟩ (.bool x4)) w.heap.size g cap (S.set j ⟨x1, x2, x3, x4⟩)) := OwnR.set HO.out hj ⟨x1, x2, x3, x4⟩
          have D := Lib.hid ((((hd.setCell (p := ⟨g, j * 4, none⟩) HO.out.2.1 (.int .i64 x1)).setCell (p := ⟨g, j * 4 + 1, none⟩) HO.out.2.1 (.string x2)).setCell (p := ⟨g, j * 4 + 2, none⟩) HO.out.2.1 (.int .i64 x3)).setCell (p := ⟨g, j * 4 + 3, none⟩) HO.out.2.1 (.bool x4))
          clear HO X
          go_wp2_with fail
          exact ⟨⟨k + 1, S.set j ⟨x1, x2, x3, x4⟩, g, cap, by omega, by go_num, by rw [List.length_set], by rw [List.length_set]; omega, Q, HM, D⟩, by simp [intOf]; omega⟩
        · have HM := Lib.hid ((HN _).out (stepA_cut h1 rfl))
          clear HN HX h1
          obtain ⟨x0, x1', x2', x3', x4'⟩ := X.out
          simp only at x0 x1' x2' x3' x4'
          have HLS := Lib.hid HO.out.lies
          have hg2 := HO.out.2.2.1
          have hcap := HO.out.2.2.2
          have j5 : (j : Int) ≤ (cap : Int) := by omega
          have j6 : (j : Int) + 1 ≤ (S.length : Int) := by omega
          have j7 : (0 : Int) ≤ (j : Int) + 1 := by omega
          have j8 : ((j : Int) + 1).toNat = j + 1 := by omega
          have j9 : IntKind.i64.wrap ((j : Int) + 1) = (j : Int) + 1 := by rw [IntKind.wrap_i64]; omega
          have ja : (j : Int) + 1 ≤ (cap : Int) := by omega
          by_cases hcj : cap = j + 1
          · have hSj : S.length = j + 1 := by omega
            have hS0 : S.length - (j + 1) = 0 := by omega
            have hSd : S.drop (j + 1) = [] := List.drop_of_length_le (by omega)
            subst hcj
            have k1 : (j : Int) ≤ (j : Int) + 1 := by omega
            have k2 : ¬ (j : Int) + 1 < (j : Int) := by omega
            have k3 : ¬ (j : Int) + 1 < (j : Int) + 1 := by omega
            have HS0 := Lib.hid hS0
            have HSd := Lib.hid hSd
            clear hSj hS0 hSd
            have A1 : (w5.alloc (.cells #[] 45)).drew.ownsRow w.heap.size 45 4 (.slice (some ⟨w5.heap.size, 0, none⟩) 0 0) 0 [] := World.ownsRow.drew (World.ownsRow_made w5 #[] 0 hz (Nat.zero_le _) (by simp))
            have A2 := takeG_news (o := .cells #[] 45) rowC_len (by decide) HLS.out hg2 j
            have A3 : (flatG rowC (S.take j)).length = j * 4 := by rw [flatG_len rowC_len, List.length_take, Nat.min_eq_left (by omega)]
            have A4 : 0 + j ≤ maxLen := by unfold maxLen; omega
            have A5 : (0 + j) * 40 ≤ 140737488355328 := by omega
            have A6 : w.heap.size ≤ (w5.alloc (.cells #[] 45)).drew.heap.size := by show _ ≤ (w5.alloc _).heap.size; simp; omega
            have A7 : 0 + j + 0 ≤ maxLen := by unfold maxLen; omega
            have A8 : (0 + j + 0) * 40 ≤ 140737488355328 := by omega
            have A9 : (flatG rowC (S.drop (j + 1))).length = (S.length - (j + 1)) * 4 := by rw [flatG_len rowC_len, List.length_drop]
            have hgw : some g ≠ some w5.heap.size := by simp; omega
            have AA := Lib.hid (And.intro A1 (And.intro A2 (And.intro A3 (And.intro A4 (And.intro A5 (And.intro A6 (And.intro A7 (And.intro A8 A9))))))))
            clear A1 A2 A3 A4 A5 A6 A7 A8 A9
            go_wp2_with fail
            go_region_law (first
              | (rename_i Kx hKx; have hq := H1; refine step_append_own _ (by rfl) _ _ _ (by rfl) w.heap.size 45 j0 _ 4 40 Tryz.underlying22 HI.out.1 HI.out.2.1 HI.out.2.2.1 HI.out.2.2.2 rfl (by omega) v1 (0 + j) ([] ++ flatG rowC (S.take j)) (by rfl) H1.out.1 ⟨g, 0, none⟩ 0 0 [] (by rfl) (by rfl) (fun i u hu => by simp at hu) (fun u hu => by cases hu) AA.out.2.2.2.2.2.2.1 AA.out.2.2.2.2.2.2.2.1 (Nat.le_trans AA.out.2.2.2.2.2.1 H1.out.2.1.size) ?_; intro v2 w2 hown2 hgrow2 hnil2; have H2 := Lib.hid (And.intro hown2 (And.intro hgrow2 hnil2)); clear hown2 hgrow2 hnil2 hq; refine hKx _ _ ?_; clear hKx Kx)
              | (rename_i Kx hKx; refine step_append_own _ (by rfl) _ _ _ (by rfl) w.heap.size 45 j0 _ 4 40 Tryz.underlying22 HI.out.1 HI.out.2.1 HI.out.2.2.1 HI.out.2.2.2 rfl (by omega) (.slice (some ⟨w5.heap.size, 0, none⟩) 0 0) 0 [] (by rfl) AA.out.1 ⟨g, 0, none⟩ j (j + 1) (flatG rowC (S.take j)) (by rfl) AA.out.2.2.1 AA.out.2.1 (flatG_cells1 rowC_one _) AA.out.2.2.2.1 AA.out.2.2.2.2.1 AA.out.2.2.2.2.2.1 ?_; intro v1 w1 hown1 hgrow1 hnil1; have H1 := Lib.hid (And.intro hown1 (And.intro hgrow1 hnil1)); clear hown1 hgrow1 hnil1; refine hKx _ _ ?_; clear hKx Kx)
              | fail)
            obtain ⟨O6, d6⟩ := after19G hj hz hd H1.out.1 H1.out.2.1 (by rw [HS0.out, HSd.out]; exact H2.out.1) H2.out.2.1 rfl rfl rfl rfl
            obtain ⟨g6, cap6, rfl, O7⟩ := OwnR.of O6 (fun e => by have q := (H1.out.2.2.1 (H2.out.2.2.1 e).1).1; cases q)
            have HO6 := Lib.hid O7
            have hl6 : (S.eraseIdx j).length ≤ l.length + (k + 1) := by rw [List.length_eraseIdx_of_lt hj]; omega
            clear H1 H2 O6 O7 HO X HLS x0 x1' x2' x3' x4'
            go_wp2_with fail
            exact ⟨⟨k + 1, S.eraseIdx j, g6, cap6, by omega, by go_num, rfl, hl6, HO6, HM, d6⟩, by simp [intOf]; omega⟩
          · have A1 : (w5.alloc (.cells #[] 45)).drew.ownsRow w.heap.size 45 4 (.slice (some ⟨w5.heap.size, 0, none⟩) 0 0) 0 [] := World.ownsRow.drew (World.ownsRow_made w5 #[] 0 hz (Nat.zero_le _) (by simp))
            have A2 := takeG_news (o := .cells #[] 45) rowC_len (by decide) HLS.out hg2 j
            have A3 : (flatG rowC (S.take j)).length = j * 4 := by rw [flatG_len rowC_len, List.length_take, Nat.min_eq_left (by omega)]
            have A4 : 0 + j ≤ maxLen := by unfold maxLen; omega
            have A5 : (0 + j) * 40 ≤ 140737488355328 := by omega
            have A6 : w.heap.size ≤ (w5.alloc (.cells #[] 45)).drew.heap.size := by show _ ≤ (w5.alloc _).heap.size; simp; omega
            have A7 : 0 + j + (S.length - (j + 1)) ≤ maxLen := by unfold maxLen; omega
            have A8 : (0 + j + (S.length - (j + 1))) * 40 ≤ 140737488355328 := by omega
            have A9 : (flatG rowC (S.drop (j + 1))).length = (S.length - (j + 1)) * 4 := by rw [flatG_len rowC_len, List.length_drop]
            have hgw : some g ≠ some w5.heap.size := by simp; omega
            have AA := Lib.hid (And.intro A1 (And.intro A2 (And.intro A3 (And.intro A4 (And.intro A5 (And.intro A6 (And.intro A7 (And.intro A8 A9))))))))
            clear A1 A2 A3 A4 A5 A6 A7 A8 A9
            go_wp2_with fail
            go_region_law (first
              | (rename_i Kx hKx; have hq := H1; refine step_append_own _ (by rfl) _ _ _ (by rfl) w.heap.size 45 j0 _ 4 40 Tryz.underlying22 HI.out.1 HI.out.2.1 HI.out.2.2.1 HI.out.2.2.2 rfl (by omega) v1 (0 + j) ([] ++ flatG rowC (S.take j)) (by rfl) H1.out.1 ⟨g, (j + 1) * 4, none⟩ (S.length - (j + 1)) (cap - (j + 1)) (flatG rowC (S.drop (j + 1))) (by rfl) AA.out.2.2.2.2.2.2.2.2 (newsG_drop rowC_len (by decide) HLS.out hg2 H1.out.2.1 hgw (j + 1)) (flatG_cells1 rowC_one _) AA.out.2.2.2.2.2.2.1 AA.out.2.2.2.2.2.2.2.1 (Nat.le_trans AA.out.2.2.2.2.2.1 H1.out.2.1.size) ?_; intro v2 w2 hown2 hgrow2 hnil2; have H2 := Lib.hid (And.intro hown2 (And.intro hgrow2 hnil2)); clear hown2 hgrow2 hnil2 hq; refine hKx _ _ ?_; clear hKx Kx)
              | (rename_i Kx hKx; refine step_append_own _ (by rfl) _ _ _ (by rfl) w.heap.size 45 j0 _ 4 40 Tryz.underlying22 HI.out.1 HI.out.2.1 HI.out.2.2.1 HI.out.2.2.2 rfl (by omega) (.slice (some ⟨w5.heap.size, 0, none⟩) 0 0) 0 [] (by rfl) AA.out.1 ⟨g, 0, none⟩ j cap (flatG rowC (S.take j)) (by rfl) AA.out.2.2.1 AA.out.2.1 (flatG_cells1 rowC_one _) AA.out.2.2.2.1 AA.out.2.2.2.2.1 AA.out.2.2.2.2.2.1 ?_; intro v1 w1 hown1 hgrow1 hnil1; have H1 := Lib.hid (And.intro hown1 (And.intro hgrow1 hnil1)); clear hown1 hgrow1 hnil1; refine hKx _ _ ?_; clear hKx Kx)
              | fail)
            obtain ⟨O6, d6⟩ := after19G hj hz hd H1.out.1 H1.out.2.1 H2.out.1 H2.out.2.1 rfl rfl rfl rfl
            obtain ⟨g6, cap6, rfl, O7⟩ := OwnR.of O6 (fun e => by have q := (H1.out.2.2.1 (H2.out.2.2.1 e).1).1; cases q)
            have HO6 := Lib.hid O7
            have hl6 : (S.eraseIdx j).length ≤ l.length + (k + 1) := by rw [List.length_eraseIdx_of_lt hj]; omega
            clear H1 H2 O6 O7 HO X HLS x0 x1' x2' x3' x4'
            go_wp2_with fail
            exact ⟨⟨k + 1, S.eraseIdx j, g6, cap6, by omega, by go_num, rfl, hl6, HO6, HM, d6⟩, by simp [intOf]; omega⟩
    · have i1 : ¬ (k : Int) < (cs.length : Int) := by omega
      have hA := HA.out
      rw [List.take_of_length_le (by omega)] at hA
      have HA := Lib.hid hA
      clear hA
      go_wp2_with fail
      go_ret2
      exact ⟨Or.inl ⟨S, HA.out, _, rfl, HO.out.row⟩, HD.out⟩

set_option maxRecDepth 100000 in
set_option maxHeartbeats 16000000 in
theorem refApply_nil (c1 : Nat) (v2 : Value) (l : List Row) (cs : List Chg) (w : World) (h1 : RRow w (.slice none 0 c1) l) (hl : l = []) (h2 : CRow w v2 cs) (hn2 : cs.length ≤ 400) (hs2 : ∀ x ∈ cs, x.r.grp.size ≤ 900) (hr2 : cright cs = true) :
    Calls Tryz.prog 18 #[.slice none 0 c1, v2] w fun e w' => ((∃ m v', applyD l cs = some m ∧ e = .returned (.tuple #[v', .int .i64 0]) ∧ RRow w' v' m) ∨ (applyD l cs = none ∧ e = .returned (.tuple #[.slice none 0 0, .int .i64 6]))) ∧ Below w.heap.size w w' := by
  have hn1 : l.length ≤ 400 := by rw [hl]; simp
  have hr : rright l = true := by rw [hl]; rfl
  have HK := Lib.hid (refRright_any _ l w h1 (by omega) (fun x hx => by rw [hl] at hx; simp at hx))
  have HK2 := Lib.hid (fun W (n : Below w.heap.size w W) => refCright_any v2 cs W (h2.on n) (by omega) hs2)
  rw [hr] at HK
  rw [hr2] at HK2
  obtain ⟨j0, hi, hz0, hz1, hz2⟩ := info29
  have HI := Lib.hid (And.intro hi (And.intro hz0 (And.intro hz1 hz2)))
  clear hi hz0 hz1 hz2
  have HLn := Lib.hid hl
  obtain ⟨a2, c2, rfl, _, hl2⟩ := h2
  have HL2 := Lib.hid hl2
  clear h1 hl2 hs2 hl
  go_enter Tryz.func18, Tryz.ntmps18
  go_wp2_with fail
  refine (HK.out).mono ?_
  rintro e w2 ⟨rfl, n2⟩
  go_wp2_with fail
  refine (HK2.out _ n2).mono ?_
  rintro e w3 ⟨rfl, n3⟩
  have d3 := n2.trans (n3.mono n2.size)
  clear n2 n3 HK HK2
  go_wp2_with fail
  have HO4 : Hid (OwnR (w3.alloc (Obj.cells #[] 45)) w.heap.size w3.heap.size 0 []) := ⟨World.ownsRow_made w3 #[] 0 d3.size (Nat.zero_le _) (by simp), d3.size, by simp, Nat.le_refl _⟩
  have d4 := d3.alloc d3.size (Obj.cells #[] 45)
  go_loopw [6, 7] (fun out i wr => ∃ (k : Nat) (S : List Row) (g cap : Nat), k ≤ cs.length ∧ i = .int .i64 k ∧ out = .slice (some ⟨g, 0, none⟩) S.length cap ∧ S.length ≤ l.length + k ∧ Hid (OwnR wr w.heap.size g cap S) ∧ Hid (applyD l (cs.take k) = some S) ∧ Hid (Below w.heap.size w wr)) (fun _ i _ => cs.length - (intOf i).toNat)
  case atStart => exact ⟨0, [], w3.heap.size, 0, Nat.zero_le _, rfl, rfl, by simp, HO4, (by rw [HLn.out]; exact applyD_nil []), d4⟩
  case round =>
    obtain ⟨k, S, g, cap, hk, rfl, rfl, hSl, HO, HA, HD⟩ := hrel
    by_cases hlt : k < cs.length
    · obtain ⟨b1, o1, rfl, hb, hL⟩ := HL2.out (ne_of_lt hlt)
      have HC := c_at hL k hlt
      obtain ⟨e1, e2, e3, e4, e5⟩ := c_at (hL.on hb HD.out) k hlt
      have i1 : (k : Int) < (cs.length : Int) := by omega
      have i2 : (0 : Int) ≤ (k : Int) := by omega
      have hz := (HD.out).size
      have HN := fun o => Lib.hid (fun (h : stepA S cs[k] = some o) => applyD_next hlt HA.out h)
      have HX := Lib.hid (fun (h : stepA S cs[k] = none) => applyD_stop hlt HA.out h)
      have HF := fun W (O : OwnR W w.heap.size g cap S) => refFind_any _ S (cs[k]).r W O.row (by omega)
      generalize cs[k] = c at *
      have hcs := findR_cases S c.r
      obtain ⟨⟨x1, x2, x3, x4⟩, x5⟩ := c
      simp only at e1 e2 e3 e4 e5 HF HC hcs
      have HF := Lib.hid HF
      clear hL HA
      go_wp2_with fail
      have na := aBelow wr (.cells #[.int .i64 x1, .string x2, .int .i64 x3, .bool x4, .bool x5] 47)
      refine (HF.out _ (HO.out.on na)).mono ?_
      rintro e w5 ⟨rfl, g5⟩
      have n5 := na.trans (g5.below.mono na.size)
      have X := Lib.hid ((CX.new wr ⟨⟨x1, x2, x3, x4⟩, x5⟩).on g5.below)
      have HO := Lib.hid (HO.out.on n5)
      have hd := (HD.out).trans (n5.mono hz)
      have hz5 := Nat.le_trans hz n5.size
      clear hz
      generalize wr.heap.size = xb at *
      have hz := hz5
      clear na n5 g5 HF HD e1 e2 e3 e4 e5 HC
      rcases hcs with ⟨h1, h2⟩ | ⟨j, hj, h1, _, _⟩
      · rw [h1]
        cases x5
        · have HM := Lib.hid ((HN _).out (stepA_put h1 rfl))
          clear HN HX h1
          obtain ⟨x0, x1', x2', x3', x4'⟩ := X.out
          simp only at x0 x1' x2' x3' x4'
          have hg1 := HO.out.2.1
          have hcap := HO.out.2.2.2
          go_wp2_with fail
          clear x0 x1' x2' x3' x4' h2
          go_loopw [9] (fun at' wr2 => ∃ (j : Nat), j ≤ S.length ∧ at' = .int .i64 j ∧ Hid (∀ i (h : i < S.length), i < j → rlt S[i] ⟨x1, x2, x3, x4⟩ = true) ∧ Hid (Gw w5 wr2)) (fun i _ => S.length - (intOf i).toNat)
          case atStart => exact ⟨0, Nat.zero_le _, rfl, fun _ _ h => absurd h (Nat.not_lt_zero _), Gw.refl _⟩
          case round =>
            obtain ⟨j, hj, rfl, HJ, HG⟩ := hrel
            have HO := Lib.hid (HO.out.on HG.out.below)
            have X := Lib.hid (X.out.on HG.out.below)
            have hd := hd.trans (HG.out.below.mono hz)
            have hz := Nat.le_trans hz HG.out.below.size
            have hg2 := HO.out.2.2.1
            have j2 : (0 : Int) ≤ (j : Int) := by omega
            have j4 : (j : Int) ≤ (cap : Int) := by omega
            have j5 : (j : Int) ≤ (S.length : Int) := by omega
            by_cases hjl : j < S.length
            · obtain ⟨f0, f1, f2, f3⟩ := r_at HO.out.lies j hjl
              rw [Nat.zero_add] at f0 f1 f2 f3
              obtain ⟨x0, x1', x2', x3', x4'⟩ := X.out
              simp only at x0 x1' x2' x3' x4'
              have j1 : (j : Int) < (S.length : Int) := by omega
              have HB := fun W => refBefore_any S[j] ⟨x1, x2, x3, x4⟩ W
              have HR1 : Hid (rlt S[j] ⟨x1, x2, x3, x4⟩ = true → ∀ i (h : i < S.length), i < j + 1 → rlt S[i] ⟨x1, x2, x3, x4⟩ = true) := by
                intro hq i h hi
                rcases Nat.lt_or_ge i j with g1 | g1
                · exact HJ.out i h g1
                · have : i = j := by omega
                  subst this
                  exact hq
              have HR2 : Hid (rlt S[j] ⟨x1, x2, x3, x4⟩ = false → putR S ⟨x1, x2, x3, x4⟩ = S.take j ++ ⟨x1, x2, x3, x4⟩ :: S.drop j) := fun h => putR_at S ⟨x1, x2, x3, x4⟩ j hj HJ.out (fun _ => h)
              have HJl := Lib.hid hjl
              have hcj : ¬ cap = j := by omega
              have HS : Hid (TwoB g (j * 4) xb 0 S[j].win S[j].grp S[j].n S[j].ov x1 x2 x3 x4 wr wr.drew) := ⟨f0, f1, f2, f3, x0, x1', x2', x3', (Gw.refl _).drew⟩
              generalize rlt S[j] ⟨x1, x2, x3, x4⟩ = R at *
              generalize S[j] = y at *
              have HB2 : Hid (∀ W, Calls Tryz.prog 38 #[.agg #[.int .i64 y.win, .string y.grp, .int .i64 y.n, .bool y.ov], .agg #[.int .i64 x1, .string x2, .int .i64 x3, .bool x4]] W fun e w' => e = .returned (.bool R) ∧ Gw W w') := HB
              clear HB HJ hjl x4'
              go_wp2_with fail
              have hS := HS.out
              unfold TwoB at hS
              clear f0 f1 f2 f3 x0 x1' x2' x3'
              go_region_held3 (fun w' => w'.cell? ⟨g, j * 4, none⟩ = some (.int .i64 y.win) ∧ w'.cell? ⟨g, j * 4 + 1, none⟩ = some (.string y.grp) ∧ w'.cell? ⟨g, j * 4 + 2, none⟩ = some (.int .i64 y.n) ∧ w'.cell? ⟨g, j * 4 + 3, none⟩ = some (.bool y.ov) ∧ w'.cell? ⟨xb, 0, none⟩ = some (.int .i64 x1) ∧ w'.cell? ⟨xb, 0 + 1, none⟩ = some (.string x2) ∧ w'.cell? ⟨xb, 0 + 2, none⟩ = some (.int .i64 x3) ∧ w'.cell? ⟨xb, 0 + 3, none⟩ = some (.bool x4) ∧ Gw wr w') (first | exact hS | exact hS3) (first
                | (go_at_call 38; refine (HB2.out _).mono ?_; rintro e w6 ⟨rfl, g3⟩; have hS3 := TwoB.on HS.out g3; unfold TwoB at hS3)
                | fail)
              have G := Lib.hid hS3.2.2.2.2.2.2.2.2
              clear hS3 hS HS g3 HB2
              cases R
              · have HP := Lib.hid (HR2.out rfl)
                have HO := Lib.hid (HO.out.on G.out.below)
                have X := Lib.hid (X.out.on G.out.below)
                have hd := hd.trans (G.out.below.mono hz)
                have hz := Nat.le_trans hz G.out.below.size
                have hg2 := HO.out.2.2.1
                have HLS := Lib.hid HO.out.lies
                clear HR1 HR2 HG G
                go_wp2_with (first | (at_builtin; refine wpList_append_own _ rfl _ _ 22 rfl w6.heap.size 45 j0 (.agg #[.int .i64 0, .string ⟨#[]⟩, .int .i64 0, .bool false]) 4 40 Tryz.underlying22 HI.out.1 HI.out.2.1 HI.out.2.2.1 HI.out.2.2.2 rfl (by decide) _ _ _ rfl (World.ownsRow_made w6 #[] 0 (Nat.le_refl _) (Nat.zero_le _) (by simp)) ⟨g, j * 4, none⟩ (S.length - j) _ (flatG rowC (S.drop j)) rfl (by rw [flatG_len rowC_len, List.length_drop]) (dropG_news (q := 0) rowC_len (by decide) HLS.out hg2 j _) (flatG_cells1 rowC_one _) (by unfold maxLen; omega) (by omega) (by simp) ?_; intro v8 w8 hown8 hgrow8 hnil8))
                obtain ⟨h8, cap8, rfl, hh1, hh2, hL8, HO8, n8⟩ := after17G (q := 0) rowC_len HO.out.1 hg2 hown8 hgrow8 (fun e => by have := (hnil8.1 e).1; cases this)
                have hS8 := X.out.on n8
                have HO8 := Lib.hid HO8
                have HL8 := Lib.hid hL8
                have d8 := hd.trans (n8.mono hz)
                have hd8 := n8.size
                clear hown8 hgrow8 hnil8 hL8 n8 HLS HO X
                go_wp2_with fail
                obtain ⟨s0, s1, s2, s3, s4⟩ := hS8
                simp only at s0 s1 s2 s3 s4
                go_region_law (first
                  | (rename_i Kx hKx; have hq := H1; refine step_append_own _ (by rfl) _ _ _ (by rfl) w.heap.size 45 j0 _ 4 40 Tryz.underlying22 HI.out.1 HI.out.2.1 HI.out.2.2.1 HI.out.2.2.2 rfl (by omega) v1 (j + 1) (flatG rowC (S.take j) ++ rowC ⟨x1, x2, x3, x4⟩) (by rfl) H1.out.1 ⟨h8, 0, none⟩ (S.length - j) cap8 (flatG rowC (S.drop j)) (by rfl) (by rw [flatG_len rowC_len, List.length_drop]) (newsG_far rowC_len (by decide) HL8.out hh2 H1.out.2.1 (by simp [Value.ownBlock]; omega)) (flatG_cells1 rowC_one _) (by unfold maxLen; omega) (by omega) (by have := H1.out.2.1.size; simp at this ⊢; omega) ?_; intro v2 w2 hown2 hgrow2 hnil2; have H2 := Lib.hid (And.intro hown2 (And.intro hgrow2 hnil2)); clear hown2 hgrow2 hnil2 hq; refine hKx _ _ ?_; clear hKx Kx)
                  | (rename_i Kx hKx; refine step_append_own _ (by rfl) _ _ _ (by rfl) w.heap.size 45 j0 _ 4 40 Tryz.underlying22 HI.out.1 HI.out.2.1 HI.out.2.2.1 HI.out.2.2.2 rfl (by omega) (.slice (some ⟨g, 0, none⟩) j cap) j (flatG rowC (S.take j)) (by rfl) (((ownG_cut rowC_len HO8.out j hj).alloc _).drew) ⟨w8.heap.size, 0, none⟩ 1 1 (rowC ⟨x1, x2, x3, x4⟩) (by rfl) (by rfl) (new1Rd w8 ⟨x1, x2, x3, x4⟩) (rowC_one _) (by unfold maxLen; omega) (by omega) (by simp; omega) ?_; intro v1 w1 hown1 hgrow1 hnil1; have H1 := Lib.hid (And.intro hown1 (And.intro hgrow1 hnil1)); clear hown1 hgrow1 hnil1; refine hKx _ _ ?_; clear hKx Kx)
                  | fail)
                clear s0 s1 s2 s3 s4
                obtain ⟨HO2, d2⟩ := after18G hj (by omega) d8 (v0 := .slice (some ⟨g, 0, none⟩) j cap) (fun k hk => by cases hk; exact hg1) H1.out.1 H1.out.2.1 H2.out.1 H2.out.2.1 rfl rfl rfl rfl
                rw [← HP.out] at HO2
                obtain ⟨g9, cap9, rfl, O9⟩ := OwnR.of HO2 (fun e => by have q := (H1.out.2.2.1 (H2.out.2.2.1 e).1).1; cases q)
                have HO9 := Lib.hid O9
                have hl9 : (putR S ⟨x1, x2, x3, x4⟩).length ≤ l.length + (k + 1) := by rw [putR_len]; omega
                clear H1 H2 HO8 O9 HO2
                go_wp2_with fail
                exact ⟨⟨k + 1, putR S ⟨x1, x2, x3, x4⟩, g9, cap9, by omega, by go_num, rfl, hl9, HO9, HM, d2⟩, by simp [intOf]; omega⟩
              · have HJ2 := Lib.hid (HR1.out rfl)
                have G2 := Lib.hid (HG.out.trans G.out)
                clear HR1 HR2 HO X
                go_wp2_with fail
                exact ⟨⟨j + 1, by have := HJl.out; omega, by go_num, HJ2, G2⟩, by have := HJl.out; simp [intOf]; omega⟩
            · have j1 : decide ((j : Int) < (S.length : Int)) = false := decide_eq_false (by omega)
              have j3 : decide (j < S.length) = false := decide_eq_false (by omega)
              have HDr := Lib.hid (show S.drop j = [] from List.drop_of_length_le (by omega))
              have HP : Hid (putR S ⟨x1, x2, x3, x4⟩ = S.take j ++ ⟨x1, x2, x3, x4⟩ :: S.drop j) := putR_at S ⟨x1, x2, x3, x4⟩ j hj HJ.out (fun h => absurd h hjl)
              clear HJ HG
              go_wp2_with fail
              go_quiet (fail)
              have G : Hid (Gw wr (wr.drewN nq)) := (Gw.refl wr).drewN nq
              generalize wr.drewN nq = w6 at *
              have HO := Lib.hid (HO.out.on G.out.below)
              have X := Lib.hid (X.out.on G.out.below)
              have hd := hd.trans (G.out.below.mono hz)
              have hz := Nat.le_trans hz G.out.below.size
              have hg2 := HO.out.2.2.1
              have HLS := Lib.hid HO.out.lies
              clear G
              by_cases hcj : cap = j
              · have hcj2 : j = cap := hcj.symm
                clear hcj
                subst hcj2
                go_wp2_with fail
                have n8 := aBelow w6 (Obj.cells #[] 45)
                have HO8 := HO.out.1.alloc (Obj.cells #[] 45)
                have hw8 : w6.heap.size < (w6.alloc (Obj.cells #[] 45)).heap.size := by simp
                have hS8 := X.out.on n8
                have d8 := hd.trans (n8.mono hz)
                have hd8 := n8.size
                clear HLS HO X n8
                generalize w6.alloc (Obj.cells #[] 45) = w8 at *
                have HO8 := Lib.hid HO8
                obtain ⟨s0, s1, s2, s3, s4⟩ := hS8
                simp only at s0 s1 s2 s3 s4
                go_region_law (first
                  | (rename_i Kx hKx; have hq := H1; refine step_append_own _ (by rfl) _ _ _ (by rfl) w.heap.size 45 j0 _ 4 40 Tryz.underlying22 HI.out.1 HI.out.2.1 HI.out.2.2.1 HI.out.2.2.2 rfl (by omega) v1 (j + 1) (flatG rowC (S.take j) ++ rowC ⟨x1, x2, x3, x4⟩) (by rfl) H1.out.1 ⟨w6.heap.size, 0, none⟩ 0 0 [] (by rfl) (by rfl) (fun i u hu => by simp at hu) (fun u hu => by cases hu) (by unfold maxLen; omega) (by omega) (by have := H1.out.2.1.size; simp at this ⊢; omega) ?_; intro v2 w2 hown2 hgrow2 hnil2; have H2 := Lib.hid (And.intro hown2 (And.intro hgrow2 hnil2)); clear hown2 hgrow2 hnil2 hq; refine hKx _ _ ?_; clear hKx Kx)
                  | (rename_i Kx hKx; refine step_append_own _ (by rfl) _ _ _ (by rfl) w.heap.size 45 j0 _ 4 40 Tryz.underlying22 HI.out.1 HI.out.2.1 HI.out.2.2.1 HI.out.2.2.2 rfl (by omega) (.slice (some ⟨g, 0, none⟩) j j) j (flatG rowC (S.take j)) (by rfl) (((ownG_cut rowC_len HO8.out j hj).alloc _).drew) ⟨w8.heap.size, 0, none⟩ 1 1 (rowC ⟨x1, x2, x3, x4⟩) (by rfl) (by rfl) (new1Rd w8 ⟨x1, x2, x3, x4⟩) (rowC_one _) (by unfold maxLen; omega) (by omega) (by simp; omega) ?_; intro v1 w1 hown1 hgrow1 hnil1; have H1 := Lib.hid (And.intro hown1 (And.intro hgrow1 hnil1)); clear hown1 hgrow1 hnil1; refine hKx _ _ ?_; clear hKx Kx)
                  | fail)
                clear s0 s1 s2 s3 s4
                have hSj : S.length - j = 0 := by omega
                obtain ⟨HO2, d2⟩ := after18G hj (by omega) d8 (v0 := .slice (some ⟨g, 0, none⟩) j j) (fun k hk => by cases hk; exact hg1) H1.out.1 H1.out.2.1 (by rw [hSj, HDr.out]; exact H2.out.1) H2.out.2.1 rfl rfl rfl rfl
                rw [← HP.out] at HO2
                obtain ⟨g9, cap9, rfl, O9⟩ := OwnR.of HO2 (fun e => by have q := (H1.out.2.2.1 (H2.out.2.2.1 e).1).1; cases q)
                have HO9 := Lib.hid O9
                have hl9 : (putR S ⟨x1, x2, x3, x4⟩).length ≤ l.length + (k + 1) := by rw [putR_len]; omega
                clear H1 H2 HO8 O9 HO2
                go_wp2_with fail
                exact ⟨⟨k + 1, putR S ⟨x1, x2, x3, x4⟩, g9, cap9, by omega, by go_num, rfl, hl9, HO9, HM, d2⟩, by simp [intOf]; omega⟩
              · clear HDr
                go_wp2_with (first | (at_builtin; refine wpList_append_own _ rfl _ _ 22 rfl w6.heap.size 45 j0 (.agg #[.int .i64 0, .string ⟨#[]⟩, .int .i64 0, .bool false]) 4 40 Tryz.underlying22 HI.out.1 HI.out.2.1 HI.out.2.2.1 HI.out.2.2.2 rfl (by decide) _ _ _ rfl (World.ownsRow_made w6 #[] 0 (Nat.le_refl _) (Nat.zero_le _) (by simp)) ⟨g, j * 4, none⟩ (S.length - j) _ (flatG rowC (S.drop j)) rfl (by rw [flatG_len rowC_len, List.length_drop]) (dropG_news (q := 0) rowC_len (by decide) HLS.out hg2 j _) (flatG_cells1 rowC_one _) (by unfold maxLen; omega) (by omega) (by simp) ?_; intro v8 w8 hown8 hgrow8 hnil8))
                obtain ⟨h8, cap8, rfl, hh1, hh2, hL8, HO8, n8⟩ := after17G (q := 0) rowC_len HO.out.1 hg2 hown8 hgrow8 (fun e => by have := (hnil8.1 e).1; cases this)
                have hS8 := X.out.on n8
                have HO8 := Lib.hid HO8
                have HL8 := Lib.hid hL8
                have d8 := hd.trans (n8.mono hz)
                have hd8 := n8.size
                clear hown8 hgrow8 hnil8 hL8 n8 HLS HO X
                go_wp2_with fail
                obtain ⟨s0, s1, s2, s3, s4⟩ := hS8
                simp only at s0 s1 s2 s3 s4
                go_region_law (first
                  | (rename_i Kx hKx; have hq := H1; refine step_append_own _ (by rfl) _ _ _ (by rfl) w.heap.size 45 j0 _ 4 40 Tryz.underlying22 HI.out.1 HI.out.2.1 HI.out.2.2.1 HI.out.2.2.2 rfl (by omega) v1 (j + 1) (flatG rowC (S.take j) ++ rowC ⟨x1, x2, x3, x4⟩) (by rfl) H1.out.1 ⟨h8, 0, none⟩ (S.length - j) cap8 (flatG rowC (S.drop j)) (by rfl) (by rw [flatG_len rowC_len, List.length_drop]) (newsG_far rowC_len (by decide) HL8.out hh2 H1.out.2.1 (by simp [Value.ownBlock]; omega)) (flatG_cells1 rowC_one _) (by unfold maxLen; omega) (by omega) (by have := H1.out.2.1.size; simp at this ⊢; omega) ?_; intro v2 w2 hown2 hgrow2 hnil2; have H2 := Lib.hid (And.intro hown2 (And.intro hgrow2 hnil2)); clear hown2 hgrow2 hnil2 hq; refine hKx _ _ ?_; clear hKx Kx)
                  | (rename_i Kx hKx; refine step_append_own _ (by rfl) _ _ _ (by rfl) w.heap.size 45 j0 _ 4 40 Tryz.underlying22 HI.out.1 HI.out.2.1 HI.out.2.2.1 HI.out.2.2.2 rfl (by omega) (.slice (some ⟨g, 0, none⟩) j cap) j (flatG rowC (S.take j)) (by rfl) (((ownG_cut rowC_len HO8.out j hj).alloc _).drew) ⟨w8.heap.size, 0, none⟩ 1 1 (rowC ⟨x1, x2, x3, x4⟩) (by rfl) (by rfl) (new1Rd w8 ⟨x1, x2, x3, x4⟩) (rowC_one _) (by unfold maxLen; omega) (by omega) (by simp; omega) ?_; intro v1 w1 hown1 hgrow1 hnil1; have H1 := Lib.hid (And.intro hown1 (And.intro hgrow1 hnil1)); clear hown1 hgrow1 hnil1; refine hKx _ _ ?_; clear hKx Kx)
                  | fail)
                clear s0 s1 s2 s3 s4
                obtain ⟨HO2, d2⟩ := after18G hj (by omega) d8 (v0 := .slice (some ⟨g, 0, none⟩) j cap) (fun k hk => by cases hk; exact hg1) H1.out.1 H1.out.2.1 H2.out.1 H2.out.2.1 rfl rfl rfl rfl
                rw [← HP.out] at HO2
                obtain ⟨g9, cap9, rfl, O9⟩ := OwnR.of HO2 (fun e => by have q := (H1.out.2.2.1 (H2.out.2.2.1 e).1).1; cases q)
                have HO9 := Lib.hid O9
                have hl9 : (putR S ⟨x1, x2, x3, x4⟩).length ≤ l.length + (k + 1) := by rw [putR_len]; omega
                clear H1 H2 HO8 O9 HO2
                go_wp2_with fail
                exact ⟨⟨k + 1, putR S ⟨x1, x2, x3, x4⟩, g9, cap9, by omega, by go_num, rfl, hl9, HO9, HM, d2⟩, by simp [intOf]; omega⟩
        · have HM := Lib.hid (HX.out (stepA_none.2 ⟨rfl, h2⟩))
          clear HN HX h1
          obtain ⟨x0, x1', x2', x3', x4'⟩ := X.out
          simp only at x0 x1' x2' x3' x4'
          go_wp2_with fail
          go_ret2
          exact ⟨Or.inr ⟨HM.out, rfl⟩, hd⟩
      · rw [h1]
        have j1 : (0 : Int) ≤ (j : Int) := by omega
        have j2 : (j : Int) < (S.length : Int) := by omega
        have j3 : ¬ (j : Int) < 0 := by omega
        cases x5
        · have HM := Lib.hid ((HN _).out (stepA_set h1 rfl))
          clear HN HX h1
          obtain ⟨x0, x1', x2', x3', x4'⟩ := X.out
          simp only at x0 x1' x2' x3' x4'
          obtain ⟨f0, f1, f2, f3⟩ := r_at HO.out.lies j hj
          rw [Nat.zero_add] at f0 f1 f2 f3
          have z0 := HO.out.1.frozenAt (j * 4)
          have z1 := HO.out.1.frozenAt (j * 4 + 1)
          have z2 := HO.out.1.frozenAt (j * 4 + 2)
          have z3 := HO.out.1.frozenAt (j * 4 + 3)
          have Q : Hid (OwnR ((((w5.setCell ⟨g, j * 4, none⟩ (.int .i64 x1)).setCell ⟨g, j * 4 + 1, none⟩ (.string x2)).setCell ⟨g, j * 4 + 2, none⟩ (.int .i64 x3)).setCell ⟨g, j * 4 + 3, none⟩ (.bool x4)) w.heap.size g cap (S.set j ⟨x1, x2, x3, x4⟩)) := OwnR.set HO.out hj ⟨x1, x2, x3, x4⟩
          have D := Lib.hid ((((hd.setCell (p := ⟨g, j * 4, none⟩) HO.out.2.1 (.int .i64 x1)).setCell (p := ⟨g, j * 4 + 1, none⟩) HO.out.2.1 (.string x2)).setCell (p := ⟨g, j * 4 + 2, none⟩) HO.out.2.1 (.int .i64 x3)).setCell (p := ⟨g, j * 4 + 3, none⟩) HO.out.2.1 (.bool x4))
          clear HO X
          go_wp2_with fail
          exact ⟨⟨k + 1, S.set j ⟨x1, x2, x3, x4⟩, g, cap, by omega, by go_num, by rw [List.length_set], by rw [List.length_set]; omega, Q, HM, D⟩, by simp [intOf]; omega⟩
        · have HM := Lib.hid ((HN _).out (stepA_cut h1 rfl))
          clear HN HX h1
          obtain ⟨x0, x1', x2', x3', x4'⟩ := X.out
          simp only at x0 x1' x2' x3' x4'
          have HLS := Lib.hid HO.out.lies
          have hg2 := HO.out.2.2.1
          have hcap := HO.out.2.2.2
          have j5 : (j : Int) ≤ (cap : Int) := by omega
          have j6 : (j : Int) + 1 ≤ (S.length : Int) := by omega
          have j7 : (0 : Int) ≤ (j : Int) + 1 := by omega
          have j8 : ((j : Int) + 1).toNat = j + 1 := by omega
          have j9 : IntKind.i64.wrap ((j : Int) + 1) = (j : Int) + 1 := by rw [IntKind.wrap_i64]; omega
          have ja : (j : Int) + 1 ≤ (cap : Int) := by omega
          by_cases hcj : cap = j + 1
          · have hSj : S.length = j + 1 := by omega
            have hS0 : S.length - (j + 1) = 0 := by omega
            have hSd : S.drop (j + 1) = [] := List.drop_of_length_le (by omega)
            subst hcj
            have k1 : (j : Int) ≤ (j : Int) + 1 := by omega
            have k2 : ¬ (j : Int) + 1 < (j : Int) := by omega
            have k3 : ¬ (j : Int) + 1 < (j : Int) + 1 := by omega
            have HS0 := Lib.hid hS0
            have HSd := Lib.hid hSd
            clear hSj hS0 hSd
            have A1 : (w5.alloc (.cells #[] 45)).drew.ownsRow w.heap.size 45 4 (.slice (some ⟨w5.heap.size, 0, none⟩) 0 0) 0 [] := World.ownsRow.drew (World.ownsRow_made w5 #[] 0 hz (Nat.zero_le _) (by simp))
            have A2 := takeG_news (o := .cells #[] 45) rowC_len (by decide) HLS.out hg2 j
            have A3 : (flatG rowC (S.take j)).length = j * 4 := by rw [flatG_len rowC_len, List.length_take, Nat.min_eq_left (by omega)]
            have A4 : 0 + j ≤ maxLen := by unfold maxLen; omega
            have A5 : (0 + j) * 40 ≤ 140737488355328 := by omega
            have A6 : w.heap.size ≤ (w5.alloc (.cells #[] 45)).drew.heap.size := by show _ ≤ (w5.alloc _).heap.size; simp; omega
            have A7 : 0 + j + 0 ≤ maxLen := by unfold maxLen; omega
            have A8 : (0 + j + 0) * 40 ≤ 140737488355328 := by omega
            have A9 : (flatG rowC (S.drop (j + 1))).length = (S.length - (j + 1)) * 4 := by rw [flatG_len rowC_len, List.length_drop]
            have hgw : some g ≠ some w5.heap.size := by simp; omega
            have AA := Lib.hid (And.intro A1 (And.intro A2 (And.intro A3 (And.intro A4 (And.intro A5 (And.intro A6 (And.intro A7 (And.intro A8 A9))))))))
            clear A1 A2 A3 A4 A5 A6 A7 A8 A9
            go_wp2_with fail
            go_region_law (first
              | (rename_i Kx hKx; have hq := H1; refine step_append_own _ (by rfl) _ _ _ (by rfl) w.heap.size 45 j0 _ 4 40 Tryz.underlying22 HI.out.1 HI.out.2.1 HI.out.2.2.1 HI.out.2.2.2 rfl (by omega) v1 (0 + j) ([] ++ flatG rowC (S.take j)) (by rfl) H1.out.1 ⟨g, 0, none⟩ 0 0 [] (by rfl) (by rfl) (fun i u hu => by simp at hu) (fun u hu => by cases hu) AA.out.2.2.2.2.2.2.1 AA.out.2.2.2.2.2.2.2.1 (Nat.le_trans AA.out.2.2.2.2.2.1 H1.out.2.1.size) ?_; intro v2 w2 hown2 hgrow2 hnil2; have H2 := Lib.hid (And.intro hown2 (And.intro hgrow2 hnil2)); clear hown2 hgrow2 hnil2 hq; refine hKx _ _ ?_; clear hKx Kx)
              | (rename_i Kx hKx; refine step_append_own _ (by rfl) _ _ _ (by rfl) w.heap.size 45 j0 _ 4 40 Tryz.underlying22 HI.out.1 HI.out.2.1 HI.out.2.2.1 HI.out.2.2.2 rfl (by omega) (.slice (some ⟨w5.heap.size, 0, none⟩) 0 0) 0 [] (by rfl) AA.out.1 ⟨g, 0, none⟩ j (j + 1) (flatG rowC (S.take j)) (by rfl) AA.out.2.2.1 AA.out.2.1 (flatG_cells1 rowC_one _) AA.out.2.2.2.1 AA.out.2.2.2.2.1 AA.out.2.2.2.2.2.1 ?_; intro v1 w1 hown1 hgrow1 hnil1; have H1 := Lib.hid (And.intro hown1 (And.intro hgrow1 hnil1)); clear hown1 hgrow1 hnil1; refine hKx _ _ ?_; clear hKx Kx)
              | fail)
            obtain ⟨O6, d6⟩ := after19G hj hz hd H1.out.1 H1.out.2.1 (by rw [HS0.out, HSd.out]; exact H2.out.1) H2.out.2.1 rfl rfl rfl rfl
            obtain ⟨g6, cap6, rfl, O7⟩ := OwnR.of O6 (fun e => by have q := (H1.out.2.2.1 (H2.out.2.2.1 e).1).1; cases q)
            have HO6 := Lib.hid O7
            have hl6 : (S.eraseIdx j).length ≤ l.length + (k + 1) := by rw [List.length_eraseIdx_of_lt hj]; omega
            clear H1 H2 O6 O7 HO X HLS x0 x1' x2' x3' x4'
            go_wp2_with fail
            exact ⟨⟨k + 1, S.eraseIdx j, g6, cap6, by omega, by go_num, rfl, hl6, HO6, HM, d6⟩, by simp [intOf]; omega⟩
          · have A1 : (w5.alloc (.cells #[] 45)).drew.ownsRow w.heap.size 45 4 (.slice (some ⟨w5.heap.size, 0, none⟩) 0 0) 0 [] := World.ownsRow.drew (World.ownsRow_made w5 #[] 0 hz (Nat.zero_le _) (by simp))
            have A2 := takeG_news (o := .cells #[] 45) rowC_len (by decide) HLS.out hg2 j
            have A3 : (flatG rowC (S.take j)).length = j * 4 := by rw [flatG_len rowC_len, List.length_take, Nat.min_eq_left (by omega)]
            have A4 : 0 + j ≤ maxLen := by unfold maxLen; omega
            have A5 : (0 + j) * 40 ≤ 140737488355328 := by omega
            have A6 : w.heap.size ≤ (w5.alloc (.cells #[] 45)).drew.heap.size := by show _ ≤ (w5.alloc _).heap.size; simp; omega
            have A7 : 0 + j + (S.length - (j + 1)) ≤ maxLen := by unfold maxLen; omega
            have A8 : (0 + j + (S.length - (j + 1))) * 40 ≤ 140737488355328 := by omega
            have A9 : (flatG rowC (S.drop (j + 1))).length = (S.length - (j + 1)) * 4 := by rw [flatG_len rowC_len, List.length_drop]
            have hgw : some g ≠ some w5.heap.size := by simp; omega
            have AA := Lib.hid (And.intro A1 (And.intro A2 (And.intro A3 (And.intro A4 (And.intro A5 (And.intro A6 (And.intro A7 (And.intro A8 A9))))))))
            clear A1 A2 A3 A4 A5 A6 A7 A8 A9
            go_wp2_with fail
            go_region_law (first
              | (rename_i Kx hKx; have hq := H1; refine step_append_own _ (by rfl) _ _ _ (by rfl) w.heap.size 45 j0 _ 4 40 Tryz.underlying22 HI.out.1 HI.out.2.1 HI.out.2.2.1 HI.out.2.2.2 rfl (by omega) v1 (0 + j) ([] ++ flatG rowC (S.take j)) (by rfl) H1.out.1 ⟨g, (j + 1) * 4, none⟩ (S.length - (j + 1)) (cap - (j + 1)) (flatG rowC (S.drop (j + 1))) (by rfl) AA.out.2.2.2.2.2.2.2.2 (newsG_drop rowC_len (by decide) HLS.out hg2 H1.out.2.1 hgw (j + 1)) (flatG_cells1 rowC_one _) AA.out.2.2.2.2.2.2.1 AA.out.2.2.2.2.2.2.2.1 (Nat.le_trans AA.out.2.2.2.2.2.1 H1.out.2.1.size) ?_; intro v2 w2 hown2 hgrow2 hnil2; have H2 := Lib.hid (And.intro hown2 (And.intro hgrow2 hnil2)); clear hown2 hgrow2 hnil2 hq; refine hKx _ _ ?_; clear hKx Kx)
              | (rename_i Kx hKx; refine step_append_own _ (by rfl) _ _ _ (by rfl) w.heap.size 45 j0 _ 4 40 Tryz.underlying22 HI.out.1 HI.out.2.1 HI.out.2.2.1 HI.out.2.2.2 rfl (by omega) (.slice (some ⟨w5.heap.size, 0, none⟩) 0 0) 0 [] (by rfl) AA.out.1 ⟨g, 0, none⟩ j cap (flatG rowC (S.take j)) (by rfl) AA.out.2.2.1 AA.out.2.1 (flatG_cells1 rowC_one _) AA.out.2.2.2.1 AA.out.2.2.2.2.1 AA.out.2.2.2.2.2.1 ?_; intro v1 w1 hown1 hgrow1 hnil1; have H1 := Lib.hid (And.intro hown1 (And.intro hgrow1 hnil1)); clear hown1 hgrow1 hnil1; refine hKx _ _ ?_; clear hKx Kx)
              | fail)
            obtain ⟨O6, d6⟩ := after19G hj hz hd H1.out.1 H1.out.2.1 H2.out.1 H2.out.2.1 rfl rfl rfl rfl
            obtain ⟨g6, cap6, rfl, O7⟩ := OwnR.of O6 (fun e => by have q := (H1.out.2.2.1 (H2.out.2.2.1 e).1).1; cases q)
            have HO6 := Lib.hid O7
            have hl6 : (S.eraseIdx j).length ≤ l.length + (k + 1) := by rw [List.length_eraseIdx_of_lt hj]; omega
            clear H1 H2 O6 O7 HO X HLS x0 x1' x2' x3' x4'
            go_wp2_with fail
            exact ⟨⟨k + 1, S.eraseIdx j, g6, cap6, by omega, by go_num, rfl, hl6, HO6, HM, d6⟩, by simp [intOf]; omega⟩
    · have i1 : ¬ (k : Int) < (cs.length : Int) := by omega
      have hA := HA.out
      rw [List.take_of_length_le (by omega)] at hA
      have HA := Lib.hid hA
      clear hA
      go_wp2_with fail
      go_ret2
      exact ⟨Or.inl ⟨S, HA.out, _, rfl, HO.out.row⟩, HD.out⟩

/-- What the document's changes make of rows. -/
theorem refApply_any (v1 v2 : Value) (l : List Row) (cs : List Chg) (w : World) (h1 : RRow w v1 l) (h2 : CRow w v2 cs) (hn1 : l.length ≤ 400) (hn2 : cs.length ≤ 400) (hs1 : ∀ x ∈ l, x.grp.size ≤ 900) (hs2 : ∀ x ∈ cs, x.r.grp.size ≤ 900) :
    Calls Tryz.prog 18 #[v1, v2] w fun e w' => (∃ v', e = .returned (.tuple #[v', .int .i64 (applyE l cs).2]) ∧ RRow w' v' (applyE l cs).1) ∧ Below w.heap.size w w' := by
  cases ha : rright l
  · rw [applyE_left ha]
    refine (refApply_left v1 v2 l w h1 (by omega) hs1 ha).mono ?_
    rintro e w' ⟨rfl, n⟩
    exact ⟨⟨_, rfl, GRow.nil _⟩, n⟩
  · cases hb : cright cs
    · rw [applyE_right hb]
      refine (refApply_right v1 v2 l cs w h1 h2 (by omega) (by omega) hs1 hs2 ha hb).mono ?_
      rintro e w' ⟨rfl, n⟩
      exact ⟨⟨_, rfl, GRow.nil _⟩, n⟩
    · have key : Calls Tryz.prog 18 #[v1, v2] w fun e w' => ((∃ m v', applyD l cs = some m ∧ e = .returned (.tuple #[v', .int .i64 0]) ∧ RRow w' v' m) ∨ (applyD l cs = none ∧ e = .returned (.tuple #[.slice none 0 0, .int .i64 6]))) ∧ Below w.heap.size w w' := by
        have h1' := h1
        obtain ⟨a, c, hv, hc, hl⟩ := h1
        cases a with
        | none =>
          have hl0 : l = [] := by
            rcases l with _ | ⟨x, t⟩
            · rfl
            · obtain ⟨b, o, e, _⟩ := hl (by simp); cases e
          subst hl0
          subst hv
          exact refApply_nil c v2 [] cs w h1' rfl h2 hn2 hs2 hb
        | some ad =>
          subst hv
          exact refApply_some ad c v2 l cs w h1' h2 hn1 hn2 hs1 hs2 ha hb
      refine key.mono ?_
      rintro e w' ⟨⟨m, v', hm, rfl, hr⟩ | ⟨hm, rfl⟩, n⟩
      · rw [applyE_some ha hb hm]
        exact ⟨⟨_, rfl, hr⟩, n⟩
      · rw [applyE_none ha hb hm]
        exact ⟨⟨_, rfl, GRow.nil _⟩, n⟩

end Go.Proofs.YtehgpibngalhfaaGreatDoor.Rw
