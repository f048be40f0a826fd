/- Walks of pin: the document's Add. -/
import Derived.Test.YtigkpfdbbifcgaaF0
import Derived.Test.YtigkpfdbbifcgaaP16
import Derived.Test.YtigkpfdbbifcgaaP18
import Derived.Deep.RegionLaw
namespace Go.Proofs.Ytigkpfdbbifcgaa.Pj
open Go Go.RowKit

/-- Pins that the call made, in their block. -/
def OwnP (w : World) (base g cap : Nat) (S : List Pn) : Prop := w.ownsRow base 35 2 (.slice (some ⟨g, 0, none⟩) S.length cap) S.length (flatG pC S) ∧ base ≤ g ∧ g < w.heap.size ∧ S.length ≤ cap
theorem OwnP.on {w w1 : World} {base g cap : Nat} {S : List Pn} (h : OwnP w base g cap S) (n : Below w.heap.size w w1) : OwnP w1 base g cap S :=
  ⟨own_on h.1 n, h.2.1, Nat.lt_of_lt_of_le h.2.2.1 n.size, h.2.2.2⟩
theorem OwnP.of {w : World} {base : Nat} {v : Value} {S : List Pn} (h : w.ownsRow base 35 2 v S.length (flatG pC S)) (hv : v ≠ .slice none 0 0) : ∃ g cap, v = .slice (some ⟨g, 0, none⟩) S.length cap ∧ OwnP w base g cap S := by
  have h' := h
  rcases h.2 with ⟨h0, _⟩ | ⟨g, cap, cur, e, hb, hg, hc, _⟩
  · exact absurd h0 hv
  · refine ⟨g, cap, e, ?_, hb, ?_, hc⟩
    · rw [← e]; exact h'
    · rcases Nat.lt_or_ge g w.heap.size with hlt | hge
      · exact hlt
      · rw [Array.getElem?_eq_none hge] at hg; cases hg
theorem OwnP.row {w : World} {base g cap : Nat} {S : List Pn} (h : OwnP w base g cap S) : PRow w (.slice (some ⟨g, 0, none⟩) S.length cap) S := ownG_row pC_len h.1
theorem OwnP.lies {w : World} {base g cap : Nat} {S : List Pn} (h : OwnP w base g cap S) : PLies w g 0 S := (ownG_cells pC_len rfl h.1).1
theorem new1P (w : World) (x : Pn) : ∀ j u, (pC x)[j]? = some u → ((w.alloc (.cells #[.int .i64 x.id, .int .i64 x.st] 35)).drew).cell? ((⟨w.heap.size, 0, none⟩ : Addr).add j) = some u := by
  intro j u hu
  show (w.alloc (.cells #[.int .i64 x.id, .int .i64 x.st] 35)).cell? _ = _
  rw [addr_add, Nat.zero_add, cell_of_row _ w.heap.size j #[.int .i64 x.id, .int .i64 x.st] 35 (0, 0) (heap_alloc_new _ _)]
  simpa [pC] using hu
theorem addAll_nil (S : List Pn) : addAll S [] = (S, 0) := rfl
theorem addAll_arg {S r : List Pn} {x : Pn} (h : x.st < 0) : addAll S (x :: r) = ([], 1) := by rw [addAll]; simp [stepP, h]
theorem addAll_twice {S r : List Pn} {x : Pn} (h : ¬ x.st < 0) (h2 : twice S x.id = true) : addAll S (x :: r) = ([], 5) := by rw [addAll]; simp [stepP, h, h2]
theorem addAll_put {S r : List Pn} {x : Pn} (h : ¬ x.st < 0) (h2 : twice S x.id = false) : addAll S (x :: r) = addAll (putP S x) r := by rw [addAll]; simp [stepP, h, h2]
theorem twice_at {S : List Pn} {id : Int} {j : Nat} (hj : idxP id S = j) (h : j < S.length) : twice S id = decide ((S[j]).id = id) := by
  unfold twice
  rw [hj, List.getElem?_eq_getElem h]
theorem twice_end {S : List Pn} {id : Int} {j : Nat} (hj : idxP id S = j) (h : ¬ j < S.length) : twice S id = false := by
  unfold twice
  rw [hj, List.getElem?_eq_none (by omega)]
theorem put_of {S : List Pn} {x : Pn} {j : Nat} (hj : idxP x.id S = j) : putP S x = S.take j ++ x :: S.drop j := by unfold putP; rw [hj]

set_option maxRecDepth 100000 in
set_option maxHeartbeats 4000000 in
theorem refAdd_any (v1 v2 : Value) (l p : List Pn) (w : World) (h1 : PRow w v1 l) (h2 : PRow w v2 p) (hn1 : l.length ≤ 1000) (hn2 : p.length ≤ 1000) :
    Calls Try.prog 9 #[v1, v2] w fun e w' => (∃ v', e = .returned (.tuple #[v', .int .i64 (addP l p).2]) ∧ PRow w' v' (addP l p).1) ∧ Below w.heap.size w w' := by
  obtain ⟨j0, hi, hz0, hz1, hz2⟩ := infoP
  have HI := Lib.hid (And.intro hi (And.intro hz0 (And.intro hz1 hz2)))
  clear hi hz0 hz1 hz2
  have HR := Lib.hid (refRight_any v1 l w h1 (by omega))
  obtain ⟨a1, c1, rfl, hc1, hl1⟩ := h1
  obtain ⟨a2, c2, rfl, hc2, hl2⟩ := h2
  have HL1 := Lib.hid hl1
  have HL2 := Lib.hid hl2
  clear hl1 hl2
  cases hr : rightP l
  · have hA : addP l p = ([], 9) := by unfold addP; rw [hr]; rfl
    rw [hA]
    rw [hr] at HR
    clear HL1 HL2 hA
    go_enter Try.func9, Try.ntmps9
    go_wp2_with fail
    refine HR.out.mono ?_
    rintro e w1 ⟨rfl, n1⟩
    go_wp2_with fail
    exact bodyPost_ret (v := .tuple #[.slice none 0 0, .int .i64 9]) (by simp [results, Try.results9, go_sem]) rfl ⟨⟨_, rfl, GRow.nil _⟩, n1⟩
  · have hA : addP l p = addAll l p := by unfold addP; rw [hr]; rfl
    rw [hA]
    rw [hr] at HR
    obtain ⟨F, HF⟩ : ∃ F, Hid (addAll l p = F) := ⟨_, Lib.hid rfl⟩
    rw [HF.out]
    clear hA
    go_enter Try.func9, Try.ntmps9
    go_wp2_with fail
    refine HR.out.mono ?_
    rintro e w1 ⟨rfl, n1⟩
    have D1 := Lib.hid n1
    have dA := Lib.hid (aBelow w1 (.cells #[] 35))
    have DA := Lib.hid (D1.out.trans (dA.out.mono D1.out.size))
    have HL := Lib.hid (HL1.out.on DA.out)
    have HN1 := Lib.hid (gat_news pC_len (by decide) HL.out)
    have HG1 := Lib.hid (gat_none HL.out)
    have HM0 := Lib.hid (World.ownsRow_made (base := w.heap.size) (e := 35) (size := 2) w1 #[] 0 D1.out.size (Nat.zero_le _) (by simp))
    clear n1 HL1 HL HR
    go_wp2_with (first
      | (at_builtin; refine wpList_append_any rfl _ _ 22 rfl w.heap.size 35 j0 (.agg #[.int .i64 0, .int .i64 0]) 2 16 Try.underlying22 HI.out.1 HI.out.2.1 HI.out.2.2.1 HI.out.2.2.2 rfl (by decide) _ _ _ rfl HM0.out a1 l.length c1 (flatG pC l) rfl (flatG_len pC_len l) HG1.out HN1.out (flatG_cells1 pC_one l) (by unfold maxLen; omega) (by omega) DA.out.size ?_
         intro v5 w3 hown5 hgrow5 hnil5
         have D3 := Lib.hid (DA.out.grown hgrow5 DA.out.size (fun j hj => by cases hj; exact D1.out.size))
         have HX := Lib.hid (OwnP.of (S := l) (by simpa using hown5) (fun e => by have := (hnil5.1 e).1; cases this))
         clear hown5 hgrow5 hnil5 HN1 HG1 HM0 dA DA D1))
    obtain ⟨g, cap, rfl, hO⟩ := HX.out
    have HO0 := Lib.hid hO
    clear HX hO
    go_loopw [6, 7] (fun so si wr => ∃ (k : Nat) (S : List Pn) (g cap : Nat), k ≤ p.length ∧ si = .int .i64 k ∧ so = .slice (some ⟨g, 0, none⟩) S.length cap ∧ S.length ≤ l.length + k ∧ Hid (OwnP wr w.heap.size g cap S) ∧ Hid (F = addAll S (p.drop k)) ∧ Hid (Below w.heap.size w wr)) (fun _ si _ => p.length - (intOf si).toNat)
    case atStart => exact ⟨0, l, g, cap, Nat.zero_le _, rfl, rfl, by omega, HO0, Lib.hid HF.out.symm, D3⟩
    case round =>
      obtain ⟨k, S, g, cap, hk, rfl, rfl, hSl, HO, HFS, HD⟩ := hrel
      clear HO0 D3 HF
      by_cases hlt : k < p.length
      · obtain ⟨b, o, rfl, hb, hL⟩ := (HL2.out.on HD.out) (ne_of_lt hlt)
        obtain ⟨e0, e1⟩ := p_at hL k hlt
        have HC := HFS.out
        rw [List.drop_eq_getElem_cons hlt] at HC
        have i1 : (k : Int) < (p.length : Int) := by omega
        have i2 : (0 : Int) ≤ (k : Int) := by omega
        generalize p[k] = x at *
        obtain ⟨xi, xs⟩ := x
        simp only at e0 e1
        clear hL HFS
        by_cases hx : xs < 0
        · have hF := HC.trans (addAll_arg (x := ⟨xi, xs⟩) hx)
          subst hF
          clear HC
          go_wp2_with fail
          exact bodyPost_ret (v := .tuple #[.slice none 0 0, .int .i64 1]) (by simp [results, Try.results9, go_sem]) rfl ⟨⟨_, rfl, GRow.nil _⟩, HD.out⟩
        · have HCC := Lib.hid HC
          have HXN : Hid (¬ (⟨xi, xs⟩ : Pn).st < 0) := Lib.hid hx
          clear HC
          go_wp2_with fail
          obtain ⟨wo, hwo⟩ : ∃ wo, wo = wr := ⟨_, rfl⟩
          subst hwo
          go_loopw [8] (fun sj wx => ∃ j nq : Nat, j ≤ S.length ∧ sj = .int .i64 j ∧ wx = wo.drewN nq ∧ Hid (∀ i (h : i < S.length), i < j → (S[i]).id < xi)) (fun sj _ => S.length - (intOf sj).toNat)
          case atStart => exact ⟨0, 0, Nat.zero_le _, rfl, rfl, Lib.hid (fun _ _ h => absurd h (Nat.not_lt_zero _))⟩
          case round =>
            obtain ⟨j, n0, hj, rfl, rfl, HJ⟩ := hrel
            have j2 : (0 : Int) ≤ (j : Int) := by omega
            by_cases hjl : j < S.length
            · obtain ⟨f0, -⟩ := p_at HO.out.lies j hjl
              rw [Nat.zero_add] at f0
              have j1 : (j : Int) < (S.length : Int) := by omega
              have HJN : Hid ((S[j]).id < xi → ∀ i (h : i < S.length), i < j + 1 → (S[i]).id < xi) := Lib.hid (by
                intro hq i h hi
                rcases Nat.lt_or_ge i j with g1 | g1
                · exact HJ.out i h g1
                · have : i = j := by omega
                  subst this
                  exact hq)
              have HIX : Hid (¬ (S[j]).id < xi → idxP xi S = j) := Lib.hid (fun hq => idxP_of hj HJ.out (fun _ => hq))
              have HTW : Hid (idxP xi S = j → twice S xi = decide ((S[j]).id = xi)) := Lib.hid (fun hq => twice_at hq hjl)
              generalize (S[j]).id = y at *
              by_cases hy : y < xi
              · have HZ := Lib.hid (HJN.out hy)
                clear HJN HIX HTW HCC HL2
                go_wp2_with fail
                go_quiet (fail)
                go_wp2_with fail
                exact ⟨⟨j + 1, _, by omega, by go_num, rfl, HZ⟩, by simp [intOf]; omega⟩
              · have HID := Lib.hid (HIX.out hy)
                have HTW := Lib.hid (HTW.out HID.out)
                by_cases hyx : y = xi
                · have hF := HCC.out.trans (addAll_twice (x := ⟨xi, xs⟩) (Int.not_lt.2 HXN.out) (by rw [HTW.out]; exact decide_eq_true hyx))
                  subst hF
                  have g1 : (y == xi) = true := by simp [hyx]
                  clear HJN HIX HTW HCC HL2 HID HJ
                  go_wp2_with fail
                  go_quiet (fail)
                  go_wp2_with fail
                  go_quiet (fail)
                  go_wp2_with fail
                  exact bodyPost_ret (v := .tuple #[.slice none 0 0, .int .i64 5]) (by simp [results, Try.results9, go_sem]) rfl ⟨⟨_, rfl, GRow.nil _⟩, by first | exact below_drewN (below_drewN HD.out _) _ | exact below_drewN HD.out _⟩
                · have HNX := Lib.hid (HCC.out.trans (addAll_put (x := ⟨xi, xs⟩) (Int.not_lt.2 HXN.out) (by rw [HTW.out]; exact decide_eq_false hyx)))
                  have HPU := Lib.hid (put_of (x := ⟨xi, xs⟩) HID.out)
                  have g1 : (y == xi) = false := by simp [hyx]
                  clear HJN HIX HTW HCC HL2 HID HJ
                  go_wp2_with fail
                  go_quiet (fail)
                  obtain ⟨n1, hn1⟩ : ∃ n1, n1 = nq := ⟨_, rfl⟩
                  subst hn1
                  go_wp2_with fail
                  go_quiet (fail)
                  have B6 : Below wo.heap.size wo (((wo.drewN n0).drewN n1).drewN nq) := below_drewN (below_drewN (below_drewN (Below.refl _ _) _) _) _
                  generalize ((wo.drewN n0).drewN n1).drewN nq = w6 at *
                  have HO6 := Lib.hid (HO.out.on B6)
                  have D6 := Lib.hid (HD.out.trans (B6.mono HD.out.size))
                  have s0 := keepC B6 e0 hb
                  have s1 := keepC B6 e1 hb
                  have hb6 := Nat.lt_of_lt_of_le hb B6.size
                  have hz6 : w.heap.size ≤ w6.heap.size := D6.out.size
                  clear e0 e1 HO HD B6 HXN
                  have HAG := Lib.hid (show PAt w6 (some ⟨g, 0, none⟩) S from fun _ => ⟨g, 0, rfl, HO6.out.2.2.1, HO6.out.lies⟩)
                  have hcutT := cutP_tail (some ⟨g, 0, none⟩) cap S.length j hj
                  have hcutH := cutP_head (some ⟨g, 0, none⟩) cap S.length j hj HO6.out.2.2.2
                  have HT6 := Lib.hid (gat_tail HAG.out HO6.out.2.2.2 j)
                  obtain ⟨ad, had⟩ : ∃ ad, (if cap = j then some ⟨g, 0, none⟩ else (some (⟨g, 0, none⟩ : Addr)).map (·.add (j * 2))) = some ad := by split <;> exact ⟨_, rfl⟩
                  rw [had] at hcutT HT6
                  obtain ⟨M, hM⟩ : ∃ M, S.length - j = M := ⟨_, rfl⟩
                  rw [hM] at hcutT
                  have HDL : Hid ((flatG pC (S.drop j)).length = M * 2) := Lib.hid (by rw [flatG_len pC_len, List.length_drop, hM])
                  have dA := Lib.hid (aBelow w6 (.cells #[] 35))
                  have HN1 := Lib.hid (gat_news pC_len (by decide) (HT6.out.on dA.out) _ rfl)
                  have HM0 := Lib.hid (World.ownsRow_made (base := w6.heap.size) (e := 35) (size := 2) w6 #[] 0 (Nat.le_refl _) (Nat.zero_le _) (by simp))
                  have hjM : j + 1 + M ≤ 1000000 := by omega
                  clear had HAG HT6
                  go_wp2_with (first
                    | (at_builtin; refine wpList_append_own _ rfl _ _ 22 rfl w6.heap.size 35 j0 (.agg #[.int .i64 0, .int .i64 0]) 2 16 Try.underlying22 HI.out.1 HI.out.2.1 HI.out.2.2.1 HI.out.2.2.2 rfl (by decide) _ _ _ rfl HM0.out ad M (cap - j) (flatG pC (S.drop j)) rfl HDL.out HN1.out (flatG_cells1 pC_one _) (by unfold maxLen; omega) (by omega) (by simp) ?_
                       intro v8 w8 hown8 hgrow8 hnil8))
                  obtain ⟨h8, cap8, rfl, hh1, hh2, hL8, hO8, n8⟩ := after17G (q := 0) (j := j) pC_len HO6.out.1 HO6.out.2.2.1 (by rw [hM]; exact hown8) hgrow8 (fun e => by have := (hnil8.1 e).1; cases this)
                  have s0 := keepC n8 s0 hb6
                  have s1 := keepC n8 s1 hb6
                  have hb8 : b < w8.heap.size := Nat.lt_of_lt_of_le hb6 n8.size
                  have hg1 := HO6.out.2.1
                  have hg2 := HO6.out.2.2.1
                  have hg3 := HO6.out.2.2.2
                  have HO8 := Lib.hid hO8
                  have HL8 := Lib.hid hL8
                  have d8 := Lib.hid (D6.out.trans (n8.mono hz6))
                  have hd8 := n8.size
                  rw [hM]
                  clear hown8 hgrow8 hnil8 hL8 n8 hO8 HO6 dA HN1 HM0 HDL D6
                  go_wp2_with fail
                  go_region_law (first
                    | (rename_i Kx hKx; have hq := H1; refine step_append_own _ (by rfl) _ _ 22 (by rfl) w.heap.size 35 j0 (.agg #[.int .i64 0, .int .i64 0]) 2 16 Try.underlying22 HI.out.1 HI.out.2.1 HI.out.2.2.1 HI.out.2.2.2 rfl (by decide) v1 (j + 1) (flatG pC (S.take j) ++ pC ⟨xi, xs⟩) (by simp [Act.eval]) H1.out.1 ⟨h8, 0, none⟩ M cap8 (flatG pC (S.drop j)) (by simp [Act.eval]) (by rw [flatG_len pC_len, List.length_drop, hM]) (newsG_far pC_len (by decide) HL8.out hh2 H1.out.2.1 (by simp [Value.ownBlock]; omega)) (flatG_cells1 pC_one _) (by unfold maxLen; omega) (by omega) (by have := H1.out.2.1.size; simp at this ⊢; omega) ?_; intro v2 w2 hown2 hgrow2 hnil2; have H2 := Lib.hid (And.intro hown2 (And.intro hgrow2 hnil2)); clear hown2 hgrow2 hnil2 hq; refine hKx _ _ ?_; clear hKx Kx)
                    | (rename_i Kx hKx; refine step_append_own _ (by rfl) _ _ 22 (by rfl) w.heap.size 35 j0 (.agg #[.int .i64 0, .int .i64 0]) 2 16 Try.underlying22 HI.out.1 HI.out.2.1 HI.out.2.2.1 HI.out.2.2.2 rfl (by decide) (.slice (some ⟨g, 0, none⟩) j cap) j (flatG pC (S.take j)) (by simp [Act.eval]) (((ownG_cut pC_len HO8.out j hj).alloc _).drew) ⟨w8.heap.size, 0, none⟩ 1 1 (pC ⟨xi, xs⟩) (by simp [Act.eval]) (by rfl) (new1P w8 ⟨xi, xs⟩) (pC_one _) (by unfold maxLen; omega) (by omega) (by simp; omega) ?_; intro v1 w1 hown1 hgrow1 hnil1; have H1 := Lib.hid (And.intro hown1 (And.intro hgrow1 hnil1)); clear hown1 hgrow1 hnil1; refine hKx _ _ ?_; clear hKx Kx)
                    | fail)
                  all_goals (obtain ⟨HO2, d2⟩ := after18G hj (by omega) d8.out (v0 := .slice (some ⟨g, 0, none⟩) j cap) (fun k hk => by cases hk; exact hg1) H1.out.1 H1.out.2.1 (by rw [hM]; exact H2.out.1) H2.out.2.1 rfl rfl rfl rfl)
                  all_goals (rw [← HPU.out] at HO2)
                  all_goals (obtain ⟨g9, cap9, rfl, O9⟩ := OwnP.of HO2 (fun e => by have q := (H1.out.2.2.1 (H2.out.2.2.1 e).1).1; cases q))
                  all_goals (have HO9 := Lib.hid O9)
                  all_goals (have D9 := Lib.hid d2)
                  all_goals (have hl9 : (putP S ⟨xi, xs⟩).length ≤ l.length + (k + 1) := by rw [putP_len]; omega)
                  all_goals (have hlen : (putP S ⟨xi, xs⟩).length = j + 1 + M := by rw [putP_len]; omega)
                  all_goals (clear H1 H2 HO8 HL8 O9 HO2 d8 HPU d2)
                  all_goals (go_wp2_with fail)
                  all_goals (exact ⟨⟨k + 1, putP S ⟨xi, xs⟩, g9, cap9, by omega, by go_num, by first | rfl | rw [hlen], hl9, HO9, HNX, D9⟩, by simp [intOf]; omega⟩)
            · have j1 : ¬ (j : Int) < (S.length : Int) := by omega
              have HID : Hid (idxP xi S = j) := Lib.hid (idxP_of hj HJ.out (fun h => absurd h hjl))
              have HNX := Lib.hid (HCC.out.trans (addAll_put (x := ⟨xi, xs⟩) (Int.not_lt.2 HXN.out) (twice_end HID.out hjl)))
              have HPU := Lib.hid (put_of (x := ⟨xi, xs⟩) HID.out)
              clear HCC HL2 HID HJ
              go_wp2_with fail
              go_quiet (fail)
              obtain ⟨n1, hn1⟩ : ∃ n1, n1 = nq := ⟨_, rfl⟩
              subst hn1
              go_wp2_with fail
              go_quiet (fail)
              have B6 : Below wo.heap.size wo (((wo.drewN n0).drewN n1).drewN nq) := below_drewN (below_drewN (below_drewN (Below.refl _ _) _) _) _
              generalize ((wo.drewN n0).drewN n1).drewN nq = w6 at *
              have HO6 := Lib.hid (HO.out.on B6)
              have D6 := Lib.hid (HD.out.trans (B6.mono HD.out.size))
              have s0 := keepC B6 e0 hb
              have s1 := keepC B6 e1 hb
              have hb6 := Nat.lt_of_lt_of_le hb B6.size
              have hz6 : w.heap.size ≤ w6.heap.size := D6.out.size
              clear e0 e1 HO HD B6 HXN
              have HAG := Lib.hid (show PAt w6 (some ⟨g, 0, none⟩) S from fun _ => ⟨g, 0, rfl, HO6.out.2.2.1, HO6.out.lies⟩)
              have hcutT := cutP_tail (some ⟨g, 0, none⟩) cap S.length j hj
              have hcutH := cutP_head (some ⟨g, 0, none⟩) cap S.length j hj HO6.out.2.2.2
              have HT6 := Lib.hid (gat_tail HAG.out HO6.out.2.2.2 j)
              obtain ⟨ad, had⟩ : ∃ ad, (if cap = j then some ⟨g, 0, none⟩ else (some (⟨g, 0, none⟩ : Addr)).map (·.add (j * 2))) = some ad := by split <;> exact ⟨_, rfl⟩
              rw [had] at hcutT HT6
              obtain ⟨M, hM⟩ : ∃ M, S.length - j = M := ⟨_, rfl⟩
              rw [hM] at hcutT
              have HDL : Hid ((flatG pC (S.drop j)).length = M * 2) := Lib.hid (by rw [flatG_len pC_len, List.length_drop, hM])
              have dA := Lib.hid (aBelow w6 (.cells #[] 35))
              have HN1 := Lib.hid (gat_news pC_len (by decide) (HT6.out.on dA.out) _ rfl)
              have HM0 := Lib.hid (World.ownsRow_made (base := w6.heap.size) (e := 35) (size := 2) w6 #[] 0 (Nat.le_refl _) (Nat.zero_le _) (by simp))
              have hjM : j + 1 + M ≤ 1000000 := by omega
              clear had HAG HT6
              go_wp2_with (first
                | (at_builtin; refine wpList_append_own _ rfl _ _ 22 rfl w6.heap.size 35 j0 (.agg #[.int .i64 0, .int .i64 0]) 2 16 Try.underlying22 HI.out.1 HI.out.2.1 HI.out.2.2.1 HI.out.2.2.2 rfl (by decide) _ _ _ rfl HM0.out ad M (cap - j) (flatG pC (S.drop j)) rfl HDL.out HN1.out (flatG_cells1 pC_one _) (by unfold maxLen; omega) (by omega) (by simp) ?_
                   intro v8 w8 hown8 hgrow8 hnil8))
              obtain ⟨h8, cap8, rfl, hh1, hh2, hL8, hO8, n8⟩ := after17G (q := 0) (j := j) pC_len HO6.out.1 HO6.out.2.2.1 (by rw [hM]; exact hown8) hgrow8 (fun e => by have := (hnil8.1 e).1; cases this)
              have s0 := keepC n8 s0 hb6
              have s1 := keepC n8 s1 hb6
              have hb8 : b < w8.heap.size := Nat.lt_of_lt_of_le hb6 n8.size
              have hg1 := HO6.out.2.1
              have hg2 := HO6.out.2.2.1
              have hg3 := HO6.out.2.2.2
              have HO8 := Lib.hid hO8
              have HL8 := Lib.hid hL8
              have d8 := Lib.hid (D6.out.trans (n8.mono hz6))
              have hd8 := n8.size
              rw [hM]
              clear hown8 hgrow8 hnil8 hL8 n8 hO8 HO6 dA HN1 HM0 HDL D6
              go_wp2_with fail
              go_region_law (first
                | (rename_i Kx hKx; have hq := H1; refine step_append_own _ (by rfl) _ _ 22 (by rfl) w.heap.size 35 j0 (.agg #[.int .i64 0, .int .i64 0]) 2 16 Try.underlying22 HI.out.1 HI.out.2.1 HI.out.2.2.1 HI.out.2.2.2 rfl (by decide) v1 (j + 1) (flatG pC (S.take j) ++ pC ⟨xi, xs⟩) (by simp [Act.eval]) H1.out.1 ⟨h8, 0, none⟩ M cap8 (flatG pC (S.drop j)) (by simp [Act.eval]) (by rw [flatG_len pC_len, List.length_drop, hM]) (newsG_far pC_len (by decide) HL8.out hh2 H1.out.2.1 (by simp [Value.ownBlock]; omega)) (flatG_cells1 pC_one _) (by unfold maxLen; omega) (by omega) (by have := H1.out.2.1.size; simp at this ⊢; omega) ?_; intro v2 w2 hown2 hgrow2 hnil2; have H2 := Lib.hid (And.intro hown2 (And.intro hgrow2 hnil2)); clear hown2 hgrow2 hnil2 hq; refine hKx _ _ ?_; clear hKx Kx)
                | (rename_i Kx hKx; refine step_append_own _ (by rfl) _ _ 22 (by rfl) w.heap.size 35 j0 (.agg #[.int .i64 0, .int .i64 0]) 2 16 Try.underlying22 HI.out.1 HI.out.2.1 HI.out.2.2.1 HI.out.2.2.2 rfl (by decide) (.slice (some ⟨g, 0, none⟩) j cap) j (flatG pC (S.take j)) (by simp [Act.eval]) (((ownG_cut pC_len HO8.out j hj).alloc _).drew) ⟨w8.heap.size, 0, none⟩ 1 1 (pC ⟨xi, xs⟩) (by simp [Act.eval]) (by rfl) (new1P w8 ⟨xi, xs⟩) (pC_one _) (by unfold maxLen; omega) (by omega) (by simp; omega) ?_; intro v1 w1 hown1 hgrow1 hnil1; have H1 := Lib.hid (And.intro hown1 (And.intro hgrow1 hnil1)); clear hown1 hgrow1 hnil1; refine hKx _ _ ?_; clear hKx Kx)
                | fail)
              all_goals (obtain ⟨HO2, d2⟩ := after18G hj (by omega) d8.out (v0 := .slice (some ⟨g, 0, none⟩) j cap) (fun k hk => by cases hk; exact hg1) H1.out.1 H1.out.2.1 (by rw [hM]; exact H2.out.1) H2.out.2.1 rfl rfl rfl rfl)
              all_goals (rw [← HPU.out] at HO2)
              all_goals (obtain ⟨g9, cap9, rfl, O9⟩ := OwnP.of HO2 (fun e => by have q := (H1.out.2.2.1 (H2.out.2.2.1 e).1).1; cases q))
              all_goals (have HO9 := Lib.hid O9)
              all_goals (have D9 := Lib.hid d2)
              all_goals (have hl9 : (putP S ⟨xi, xs⟩).length ≤ l.length + (k + 1) := by rw [putP_len]; omega)
              all_goals (have hlen : (putP S ⟨xi, xs⟩).length = j + 1 + M := by rw [putP_len]; omega)
              all_goals (clear H1 H2 HO8 HL8 O9 HO2 d8 HPU d2)
              all_goals (go_wp2_with fail)
              all_goals (exact ⟨⟨k + 1, putP S ⟨xi, xs⟩, g9, cap9, by omega, by go_num, by first | rfl | rw [hlen], hl9, HO9, HNX, D9⟩, by simp [intOf]; omega⟩)
      · have hF : F = (S, 0) := by rw [HFS.out, List.drop_of_length_le (by omega), addAll_nil]
        subst hF
        have i1 : ¬ (k : Int) < (p.length : Int) := by omega
        go_wp2_with fail
        exact bodyPost_ret (v := .tuple #[.slice (some ⟨g, 0, none⟩) S.length cap, .int .i64 0]) (by simp [results, Try.results9, go_sem]) rfl ⟨⟨_, rfl, HO.out.row⟩, HD.out⟩
end Go.Proofs.Ytigkpfdbbifcgaa.Pj
