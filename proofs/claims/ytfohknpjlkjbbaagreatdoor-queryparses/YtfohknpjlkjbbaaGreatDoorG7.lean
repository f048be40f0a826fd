/- Carried over from earlier layers: walks and lemmas of tags, series and matches. -/
import Derived.Test.YtfohknpjlkjbbaaGreatDoorG3
import Derived.Lib.SliceRun
import Derived.OwnWalk
import Derived.Deep.AppendLies
namespace Go.Proofs.YtfohknpjlkjbbaaGreatDoor
open Go Go.RowKit Go.Sort Tg
theorem order_take (l : List Tag) (k : Nat) (hk : k < l.length) : order (l.take (k + 1)) = Tg.step (order (l.take k)) l[k] := by
  rw [List.take_succ_eq_append_getElem hk, order_snoc]
/-- A row of one's own, up to some place. -/
theorem ownT_cut {w : World} {base g cap : Nat} {S : List Tag} (h : OwnT w base (.slice (some ⟨g, 0, none⟩) S.length cap) S) (j : Nat) (hj : j ≤ S.length) : w.ownsRow base 63 2 (.slice (some ⟨g, 0, none⟩) j cap) j (flat (S.take j)) := by
  obtain ⟨h1, h2⟩ := h
  have hl : (S.take j).length = j := by rw [List.length_take]; omega
  refine ⟨by rw [flat_len, hl], .inr ?_⟩
  rcases h2 with ⟨h0, _⟩ | ⟨g', cap', cur, hv, hb, hg, hc, hm, hs, ht⟩
  · cases h0
  · cases hv
    refine ⟨g, cap, cur, rfl, hb, hg, by omega, hm, hs, ?_⟩
    have e : flat S = flat (S.take j) ++ flat (S.drop j) := by rw [← flat_append, List.take_append_drop]
    have e2 : cur.toList.take (j * 2) = (cur.toList.take (S.length * 2)).take (j * 2) := by
      rw [List.take_take]
      congr 1
      omega
    rw [e2, ht, e, List.take_append_of_le_length (by rw [flat_len, hl]; exact Nat.le_refl _), List.take_of_length_le (by rw [flat_len, hl]; exact Nat.le_refl _)]
/-- .. and from some place on. -/
theorem lies_drop {w : World} {b o : Nat} {S : List Tag} (h : TLies w b o S) (j : Nat) : TLies w b (o + j * 2) (S.drop j) := by
  intro i hi
  have hi' : j + i < S.length := by rw [List.length_drop] at hi; omega
  obtain ⟨h1, h2⟩ := h (j + i) hi'
  rw [List.getElem_drop]
  rw [show o + j * 2 + i * 2 = o + (j + i) * 2 from by omega]
  exact ⟨h1, h2⟩
theorem drop_news {wr : World} {g : Nat} {S : List Tag} (h : TLies wr g 0 S) (hg : g < wr.heap.size) (j q : Nat) (o : Obj) : ∀ i u, (flat (S.drop j))[i]? = some u → ((wr.drewN q).alloc o).cell? ((⟨g, j * 2, none⟩ : Addr).add i) = some u := by
  intro i u hu
  have h2 := lies_drop h j
  rw [Nat.zero_add] at h2
  rw [addr_add, World.cell?_alloc_lt _ _ _ (show (⟨g, j * 2 + i, none⟩ : Addr).block < (wr.drewN q).heap.size from hg)]
  exact flat_cells h2 i u hu
theorem own_lies {w : World} {base g n cap : Nat} {S : List Tag} (h : w.ownsRow base 63 2 (.slice (some ⟨g, 0, none⟩) n cap) n (flat S)) (hn : n = S.length) : TLies w g 0 S := by
  subst hn
  rcases List.eq_nil_or_concat S with h0 | ⟨m, x, h0⟩
  · subst h0
    intro i hi
    cases hi
  · have hne : S ≠ [] := by rw [h0]; simp
    obtain ⟨a3, c3, he, _, hat⟩ := ownT_row h
    cases he
    obtain ⟨b3, o3, ha, _, hL3⟩ := hat hne
    cases ha
    exact hL3
/-- What stands behind 'rest := append([]Tag{}, out[at:]...)'. -/
theorem after17 {w wr w8 : World} {v8 : Value} {b o k g cap j q : Nat} {S : List Tag} {x : Tag} (hbl : Below w.heap.size w wr) (HO : OwnT wr w.heap.size (.slice (some ⟨g, 0, none⟩) S.length cap) S) (hg2 : g < wr.heap.size) (hb : b < wr.heap.size)
    (e1 : wr.cell? ⟨b, o + k * 2, none⟩ = some (.string x.1)) (e2 : wr.cell? ⟨b, o + k * 2 + 1, none⟩ = some (.string x.2))
    (hown : w8.ownsRow wr.heap.size 63 2 v8 (0 + (S.length - j)) ([] ++ flat (S.drop j))) (hgrow : ((wr.drewN q).alloc (Obj.cells #[] 63)).grownBy w8 (some wr.heap.size)) (hnil : v8 ≠ .slice none 0 0) :
    ∃ h cap8, v8 = .slice (some ⟨h, 0, none⟩) (S.length - j) cap8 ∧ wr.heap.size ≤ h ∧ h < w8.heap.size ∧ TLies w8 h 0 (S.drop j) ∧ OwnT w8 w.heap.size (.slice (some ⟨g, 0, none⟩) S.length cap) S ∧
      w8.cell? ⟨b, o + k * 2, none⟩ = some (.string x.1) ∧ w8.cell? ⟨b, o + k * 2 + 1, none⟩ = some (.string x.2) ∧ b < w8.heap.size ∧ Below w.heap.size w w8 := by
  rw [Nat.zero_add, List.nil_append] at hown
  have hz := hbl.size
  have d8 : Below w.heap.size w w8 := ((below_drewN hbl q).alloc hz _).grown hgrow (by simp; omega) (fun k hk => by cases hk; exact hz)
  have hsz : wr.heap.size ≤ w8.heap.size := by
    have h1 : ((wr.drewN q).alloc (Obj.cells #[] 63)).heap.size ≤ w8.heap.size := hgrow.size
    simp at h1
    omega
  obtain ⟨h, cap8, hv, hh1, hh2⟩ : ∃ h cap8, v8 = .slice (some ⟨h, 0, none⟩) (S.length - j) cap8 ∧ wr.heap.size ≤ h ∧ h < w8.heap.size := by
    rcases hown.2 with ⟨h0, _⟩ | ⟨h, cap8, cur, hv, hb, hg, _⟩
    · exact absurd h0 hnil
    · refine ⟨h, cap8, hv, hb, ?_⟩
      rcases Nat.lt_or_ge h w8.heap.size with hlt | hge
      · exact hlt
      · rw [Array.getElem?_eq_none hge] at hg; cases hg
  subst hv
  have far : ∀ p v, p.block < wr.heap.size → wr.cell? p = some v → w8.cell? p = some v := by
    intro p v hp hc
    rw [hgrow.cell_far p (by simp; omega) (by simp; omega), World.cell?_alloc_lt _ _ _ (show p.block < (wr.drewN q).heap.size from hp)]
    exact hc
  refine ⟨h, cap8, rfl, hh1, hh2, own_lies hown (by rw [List.length_drop]), ?_, far _ _ hb e1, far _ _ hb e2, by omega, d8⟩
  have hO : ((wr.drewN q).alloc (Obj.cells #[] 63)).ownsRow w.heap.size 63 2 (.slice (some ⟨g, 0, none⟩) S.length cap) S.length (flat S) := World.ownsRow.alloc (w := wr.drewN q) HO _
  exact hO.kept hgrow (Or.inr (by simp [Value.ownBlock]; omega))
theorem after17e {w wr : World} {b o k g cap : Nat} {S : List Tag} {x : Tag} (hbl : Below w.heap.size w wr) (HO : OwnT wr w.heap.size (.slice (some ⟨g, 0, none⟩) S.length cap) S) (hb : b < wr.heap.size)
    (e1 : wr.cell? ⟨b, o + k * 2, none⟩ = some (.string x.1)) (e2 : wr.cell? ⟨b, o + k * 2 + 1, none⟩ = some (.string x.2)) (q : Nat) :
    OwnT ((wr.drewN q).alloc (Obj.cells #[] 63)) w.heap.size (.slice (some ⟨g, 0, none⟩) S.length cap) S ∧
      ((wr.drewN q).alloc (Obj.cells #[] 63)).cell? ⟨b, o + k * 2, none⟩ = some (.string x.1) ∧ ((wr.drewN q).alloc (Obj.cells #[] 63)).cell? ⟨b, o + k * 2 + 1, none⟩ = some (.string x.2) ∧ b < ((wr.drewN q).alloc (Obj.cells #[] 63)).heap.size ∧ Below w.heap.size w ((wr.drewN q).alloc (Obj.cells #[] 63)) := by
  refine ⟨World.ownsRow.alloc (w := wr.drewN q) HO _, ?_, ?_, by simp; omega, (below_drewN hbl q).alloc hbl.size _⟩
  · rw [World.cell?_alloc_lt _ _ _ (show (⟨b, o + k * 2, none⟩ : Addr).block < (wr.drewN q).heap.size from hb)]
    exact e1
  · rw [World.cell?_alloc_lt _ _ _ (show (⟨b, o + k * 2 + 1, none⟩ : Addr).block < (wr.drewN q).heap.size from hb)]
    exact e2
theorem news_far {w8 w1 : World} {h : Nat} {R : List Tag} {o : Obj} {row : Option Nat} (hL : TLies w8 h 0 R) (hh : h < w8.heap.size) (hg : (w8.alloc o).drew.grownBy w1 row) (hne : some h ≠ row) : ∀ i u, (flat R)[i]? = some u → w1.cell? ((⟨h, 0, none⟩ : Addr).add i) = some u := by
  intro i u hu
  rw [addr_add, hg.cell_far _ (by simp; omega) hne]
  show (w8.alloc o).cell? _ = _
  rw [World.cell?_alloc_lt _ _ _ (show (⟨h, 0 + i, none⟩ : Addr).block < w8.heap.size from hh)]
  exact flat_cells hL i u hu
theorem far1 {w8 w1 : World} {o : Obj} {row : Option Nat} {b off : Nat} {v : Value} (hg : (w8.alloc o).drew.grownBy w1 row) (hb : b < w8.heap.size) (hne : some b ≠ row) (h : w8.cell? ⟨b, off, none⟩ = some v) : w1.cell? ⟨b, off, none⟩ = some v := by
  rw [hg.cell_far _ (by simp; omega) hne]
  show (w8.alloc o).cell? _ = _
  rw [World.cell?_alloc_lt _ _ _ (show (⟨b, off, none⟩ : Addr).block < w8.heap.size from hb)]
  exact h
theorem far2 {w1 w1' w2 : World} {row : Option Nat} {b off : Nat} {v : Value} (hg : w1'.grownBy w2 row) (hh : w1'.heap = w1.heap) (hne : some b ≠ row) (h : w1.cell? ⟨b, off, none⟩ = some v) : w2.cell? ⟨b, off, none⟩ = some v := by
  have hb := World.block_lt_of_cell? w1 _ h
  rw [hg.cell_far _ (by rw [hh]; exact hb) hne]
  rw [show w1'.cell? ⟨b, off, none⟩ = w1.cell? ⟨b, off, none⟩ from by unfold World.cell?; rw [hh]]
  exact h
/-- What stands behind 'out = append(append(out[:at], x), rest...)'. -/
theorem after18 {w w8 w1 w1' w2 : World} {v0 v1 v2 : Value} {o : Obj} {j : Nat} {S : List Tag} {x : Tag} (hj : j = pos x S) (d8 : Below w.heap.size w w8) (h0 : ∀ k, v0.ownBlock = some k → w.heap.size ≤ k)
    (hown1 : w1.ownsRow w.heap.size 63 2 v1 (j + 1) (flat (S.take j) ++ [.string x.1, .string x.2])) (hgrow1 : (w8.alloc o).drew.grownBy w1 v0.ownBlock)
    (hown2 : w2.ownsRow w.heap.size 63 2 v2 (j + 1 + (S.length - j)) (flat (S.take j) ++ [.string x.1, .string x.2] ++ flat (S.drop j))) (hgrow2 : w1'.grownBy w2 v1.ownBlock) (hh : w1'.heap = w1.heap) (ho : w1'.os = w1.os) (ht : w1'.tape = w1.tape) (hu : w1'.output = w1.output) : OwnT w2 w.heap.size v2 (put x S) ∧ Below w.heap.size w w2 := by
  have hz := d8.size
  have hp := pos_le x S
  refine ⟨?_, ?_⟩
  · show w2.ownsRow w.heap.size 63 2 v2 (put x S).length (flat (put x S))
    have e1 : flat (put x S) = flat (S.take j) ++ [.string x.1, .string x.2] ++ flat (S.drop j) := by
      unfold put
      rw [← hj, flat_append, List.append_assoc]
      rfl
    have e2 : (put x S).length = j + 1 + (S.length - j) := by rw [put_len]; omega
    rw [e1, e2]
    exact hown2
  · have d1 : Below w.heap.size w w1 := ((d8.alloc hz _).drew).grown hgrow1 (by simp; omega) h0
    have d1' : Below w.heap.size w w1' := ⟨ho.trans d1.os, ht.trans d1.tape, hu.trans d1.output, by rw [hh]; exact d1.size, fun b hb => by rw [hh]; exact d1.block b hb⟩
    exact d1'.grown hgrow2 d1'.size (fun k hk => (hown1.lt k hk).1)
set_option maxRecDepth 100000 in
set_option maxHeartbeats 2000000 in
theorem refCanon_any (v : Value) (l : List Tag) (w : World) (h : TRow w v l) (hn : l.length ≤ 1000) (hs : ∀ x ∈ l, x.1.size ≤ 281474976710656 ∧ x.2.size ≤ 281474976710656) :
    Calls Tryz.prog 79 #[v] w fun e w' => (∃ v', e = .returned (.tuple #[v', .int .i64 (canon l).2]) ∧ TRow w' v' (canon l).1) ∧ Below w.heap.size w w' := by
  obtain ⟨a, c, rfl, hc, hl⟩ := h
  obtain ⟨i0, hi, hz0, hz1, hz2⟩ := info41
  have HI := Lib.hid (And.intro hi (And.intro hz0 (And.intro hz1 hz2)))
  clear hi hz0 hz1 hz2
  have HL := Lib.hid hl
  have HS := Lib.hid hs
  clear hl hs
  obtain ⟨C, HC⟩ : ∃ C, Hid (canon l = C) := ⟨_, rfl⟩
  rw [HC.out]
  go_enter Tryz.func79, Tryz.ntmps79
  go_wp2
  go_loopw [4] (fun i wr => ∃ (k : Nat), k ≤ l.length ∧ i = .int .i64 k ∧ Hid ((l.take k).all may = true) ∧ Below w.heap.size w wr) (fun i _ => l.length - (intOf i).toNat)
  case atStart => exact ⟨0, Nat.zero_le _, rfl, rfl, Below.refl _ _⟩
  case round =>
    obtain ⟨k, hk, rfl, HT, hbl⟩ := hrel
    by_cases hlt : k < l.length
    · obtain ⟨b, o, rfl, hb, hL⟩ := HL.out (ne_of_lt hlt)
      obtain ⟨e1, e2⟩ := (hL.on hb hbl) k hlt
      have i1 : (k : Int) < (l.length : Int) := by omega
      have i2 : (0 : Int) ≤ (k : Int) := by omega
      obtain ⟨z1, z2⟩ := HS.out _ (List.getElem_mem hlt)
      have HN : Hid (may l[k] = true → (l.take (k + 1)).all may = true) := fun h => by rw [all_next hlt HT.out]; exact h
      have HF : Hid (may l[k] = false → C = ([], 2)) := fun h => by
        show C = _
        rw [← HC.out]
        exact canon_form (all_not hlt h)
      have HB := Lib.hid (fun W => may_any l[k] W z1 z2)
      generalize l[k] = x at *
      clear hL hb HL HT HS HI
      cases hm : may x
      · rw [hm] at HB
        have HF2 := Lib.hid (HF.out hm)
        clear HF HN
        go_wp2_with (first | (go_at_call 97; refine (HB.out _).mono ?_; rintro e w1 ⟨rfl, q, os, rfl⟩))
        go_ret2
        rw [HF2.out]
        exact ⟨⟨_, rfl, TRow.nil _⟩, hbl.trans ((below_grow wr q os).mono hbl.size)⟩
      · rw [hm] at HB
        have HN2 := Lib.hid (HN.out hm)
        clear HF HN
        go_wp2_with (first | (go_at_call 97; refine (HB.out _).mono ?_; rintro e w1 ⟨rfl, q, os, rfl⟩))
        exact ⟨⟨k + 1, by omega, by go_num, HN2, hbl.trans ((below_grow wr q os).mono hbl.size)⟩, by simp [intOf]; omega⟩
    · have HA : Hid (l.all may = true) := by
        have h1 := HT.out
        rw [List.take_of_length_le (by omega)] at h1
        exact h1
      clear HT
      by_cases h4 : 4 < l.length
      · have HM := Lib.hid ((HC.out).symm.trans (canon_many HA.out h4))
        clear HA HL HS HI
        go_wp2_with fail
        go_ret2
        rw [HM.out]
        exact ⟨⟨_, rfl, TRow.nil _⟩, hbl⟩
      · have HO4 := Lib.hid ((HC.out).symm.trans (canon_order HA.out (by omega)))
        clear HA HC
        go_wp2_with fail
        go_loopw [5, 6] (fun out i wr => ∃ (k : Nat) (S : List Tag), k ≤ l.length ∧ Hid (S.length = k) ∧ i = .int .i64 k ∧ (k = 0 → out = .slice none 0 0) ∧ Hid (order (l.take k) = some S) ∧ Hid (OwnT wr w.heap.size out S) ∧ Below w.heap.size w wr) (fun _ i _ => l.length - (intOf i).toNat)
        case atStart => exact ⟨0, [], Nat.zero_le _, rfl, rfl, fun _ => rfl, rfl, ownT_nil _ _, hbl⟩
        case round =>
          obtain ⟨k, S, hk, hSk, rfl, hnil, HT, HO, hbl⟩ := hrel
          by_cases hlt : k < l.length
          · obtain ⟨b, o, rfl, hb, hL⟩ := HL.out (ne_of_lt hlt)
            have hb' : b < wr.heap.size := Nat.lt_of_lt_of_le hb hbl.size
            obtain ⟨e1, e2⟩ := (hL.on hb hbl) k hlt
            have i1 : (k : Int) < (l.length : Int) := by omega
            have i2 : (0 : Int) ≤ (k : Int) := by omega
            have HR := Lib.hid (order_take l k hlt)
            have mx := mixed
            generalize l[k] = x at *
            clear hL HL HS
            have hz := hbl.size
            have hS4 : S.length ≤ 4 := by rw [hSk.out]; omega
            rcases Nat.eq_zero_or_pos k with hk0 | hk0
            · as_aux_lemma =>
                have hs0 : S = [] := List.length_eq_zero_iff.1 (by rw [hSk.out]; exact hk0)
                subst hs0
                have h5 := hnil hk0
                subst h5
                have HR2 : Hid (order (l.take (k + 1)) = some [x]) := by
                  show _ = _
                  rw [HR.out, HT.out]
                  rfl
                have hPL : Hid ((put x []).length = k + 1) := by show _ = _; rw [hk0]; rfl
                clear hk0 hnil HR HT HO hSk
                go_wp2_with fail
                refine wp_loop_rounds 1 ?_
                rw [rounds_succ]
                go_wp2_with fail
                go_quiet (fail)
                generalize nq = n1
                go_wp2_with fail
                go_quiet (fail)
                go_wp2_with fail
                have f1 : ((wr.drewN (n1 + nq)).alloc (Obj.cells #[] 63)).cell? ⟨b, o + k * 2, none⟩ = some (.string x.1) := by
                  rw [World.cell?_alloc_lt _ _ _ (show (⟨b, o + k * 2, none⟩ : Addr).block < (wr.drewN (n1 + nq)).heap.size from hb')]
                  exact e1
                have f2 : ((wr.drewN (n1 + nq)).alloc (Obj.cells #[] 63)).cell? ⟨b, o + k * 2 + 1, none⟩ = some (.string x.2) := by
                  rw [World.cell?_alloc_lt _ _ _ (show (⟨b, o + k * 2 + 1, none⟩ : Addr).block < (wr.drewN (n1 + nq)).heap.size from hb')]
                  exact e2
                have hb8 : b < ((wr.drewN (n1 + nq)).alloc (Obj.cells #[] 63)).heap.size := by simp; omega
                have d8 : Below w.heap.size w ((wr.drewN (n1 + nq)).alloc (Obj.cells #[] 63)) := (below_drewN hbl _).alloc hz _
                have hw8 : wr.heap.size < ((wr.drewN (n1 + nq)).alloc (Obj.cells #[] 63)).heap.size := by simp
                clear e1 e2 hb'
                generalize (wr.drewN (n1 + nq)).alloc (Obj.cells #[] 63) = w8 at *
                have hd8 := d8.size
                go_region_held3 (fun w' => w'.cell? ⟨b, o + k * 2, none⟩ = some (.string x.1) ∧ w'.cell? ⟨b, o + k * 2 + 1, none⟩ = some (.string x.2))
                  (first
                    | (go_split_ands; exact ⟨far2 hgrow2 rfl (fun e => by have := (hown1.lt b e.symm).1; omega) (by assumption), far2 hgrow2 rfl (fun e => by have := (hown1.lt b e.symm).1; omega) (by assumption)⟩)
                    | (go_split_ands; exact ⟨far1 hgrow1 hb8 (by simp [Value.ownBlock]) (by assumption), far1 hgrow1 hb8 (by simp [Value.ownBlock]) (by assumption)⟩)
                    | go_keep)
                  (first
                    | (refine step_append_own _ (by rfl) _ _ _ (by rfl) w.heap.size 63 i0 _ 2 32 Tryz.underlying34 HI.out.1 HI.out.2.1 HI.out.2.2.1 HI.out.2.2.2 rfl (by omega) (.slice none 0 0) 0 [] (by rfl) (World.ownsRow_nil _ _ _ _) ⟨w8.heap.size, 0, none⟩ 1 1 [.string x.1, .string x.2] (by rfl) (by rfl) (World.news_of_block (cs := #[.string x.1, .string x.2]) (t := 63) (fr := (0, 0)) (heap_alloc_new w8 _)) (one1T x) (by unfold maxLen; omega) (by omega) (by simp; omega) ?_; intro v1 w1 hown1 hgrow1 hnil1)
                    | (refine step_append_own _ (by rfl) _ _ _ (by rfl) w.heap.size 63 i0 _ 2 32 Tryz.underlying34 HI.out.1 HI.out.2.1 HI.out.2.2.1 HI.out.2.2.2 rfl (by omega) v1 (0 + 1) ([] ++ [.string x.1, .string x.2]) (by rfl) hown1 ⟨wr.heap.size, 0, none⟩ 0 0 [] (by rfl) (by rfl) (fun i u hu => by simp at hu) (fun u hu => by cases hu) (by unfold maxLen; omega) (by omega) (by have := hgrow1.size; simp at this ⊢; omega) ?_; intro v2 w2 hown2 hgrow2 hnil2))
                obtain ⟨HO2, d2⟩ := after18 (S := []) (j := 0) (x := x) rfl d8 (v0 := .slice none 0 0) (fun k hk => by cases hk) hown1 hgrow1 hown2 hgrow2 rfl rfl rfl rfl
                have HO2 := Lib.hid HO2
                clear hown1 hown2 hgrow1 hgrow2 hnil1 hnil2
                go_wp2_with fail
                exact ⟨⟨k + 1, _, by omega, hPL, by go_num, fun e => absurd e (Nat.succ_ne_zero k), HR2, HO2, d2⟩, by simp [intOf]; omega⟩
            · obtain ⟨g, cap, hv, hg1, hg2, hcap⟩ : ∃ g cap, u5 = .slice (some ⟨g, 0, none⟩) S.length cap ∧ w.heap.size ≤ g ∧ g < wr.heap.size ∧ S.length ≤ cap := by
                have hSl := hSk.out
                rcases HO.out.2 with ⟨_, hz⟩ | ⟨g, cap, cur, hv, hb, hg, hc, _⟩
                · omega
                · refine ⟨g, cap, hv, hb, ?_, hc⟩
                  rcases Nat.lt_or_ge g wr.heap.size with hlt | hge
                  · exact hlt
                  · rw [Array.getElem?_eq_none hge] at hg; cases hg
              subst hv
              have hLS : TLies wr g 0 S := by
                obtain ⟨a3, c3, he, hc3, hat⟩ := ownT_row HO.out
                cases he
                obtain ⟨b3, o3, ha, _, hL3⟩ := hat (ne_of_lt (k := 0) (by rw [hSk.out]; exact hk0))
                cases ha
                exact hL3
              have HLS := Lib.hid hLS
              clear hLS hk0 hnil
              go_wp2_with fail
              go_loopw [7] (fun at' wr2 => ∃ (j nq : Nat), j ≤ S.length ∧ at' = .int .i64 j ∧ wr2 = wr.drewN nq ∧ Hid (∀ i (h : i < S.length), i < j → lt S[i] x = true)) (fun i _ => S.length - (intOf i).toNat)
              case atStart => exact ⟨0, 0, Nat.zero_le _, rfl, rfl, fun _ _ h => absurd h (Nat.not_lt_zero _)⟩
              case round =>
                obtain ⟨j, n0, hj, rfl, rfl, HJ⟩ := hrel
                have j2 : (0 : Int) ≤ (j : Int) := by omega
                have j4 : (j : Int) ≤ (cap : Int) := by omega
                have j5 : (j : Int) ≤ (S.length : Int) := by omega
                by_cases hjl : j < S.length
                · obtain ⟨f1, f2⟩ := HLS.out j hjl
                  rw [Nat.zero_add] at f1 f2
                  have j1 : (j : Int) < (S.length : Int) := by omega
                  have HJl := Lib.hid hjl
                  have HQ : Hid (Op.bytesLess (S[j]).1.toList x.1.toList = lt S[j] x) := by
                    show _ = _
                    rw [ByteArray.toList_eq, ByteArray.toList_eq]; rfl
                  cases hq : lt S[j] x
                  · as_aux_lemma =>
                      have hq' := HQ.out.trans hq
                      have HP : Hid (j = pos x S) := pos_eq hj (fun i h hi => HJ.out i h hi) (fun _ => hq)
                      have HCl := Lib.hid (clash_at HP.out hjl)
                      have HE : Hid (((S[j]).1.toList == x.1.toList) = decide (nm S[j] = nm x)) := by
                        show _ = _
                        rw [ByteArray.toList_eq, ByteArray.toList_eq, Bool.eq_iff_iff, beq_iff_eq, decide_eq_true_eq]
                        rfl
                      generalize S[j] = y at *
                      have HDd : Hid (decide (nm y = nm x) = clash x S) := (HCl.out).symm
                      have HX : Hid (clash x S = true → C = ([], 5)) := fun h => by
                        show C = _
                        rw [HO4.out, order_none (k := k + 1) (by rw [HR.out, HT.out, step_some, h]; rfl)]
                      have HR4 : Hid (clash x S = false → order (l.take (k + 1)) = some (put x S)) := fun h => by
                        show _ = _
                        rw [HR.out, HT.out, step_some, h]
                        rfl
                      have HPL : Hid ((put x S).length = k + 1) := by show _ = _; rw [put_len, hSk.out]
                      clear hq HQ HR HT HJ HCl
                      have hcj : ¬ cap = j := by omega
                      cases hcl : clash x S
                      · as_aux_lemma =>
                          have hq2 : (y.1.toList == x.1.toList) = false := by rw [HE.out, HDd.out, hcl]
                          have HR3 := Lib.hid (HR4.out hcl)
                          clear hcl HX HR4 HDd HE
                          go_wp2_with fail
                          go_quiet (fail)
                          go_wp2_with fail
                          go_quiet (fail)
                          go_wp2_with (first | (at_builtin; refine wpList_append_own _ rfl _ _ 34 rfl wr.heap.size 63 i0 (.agg #[.string ⟨#[]⟩, .string ⟨#[]⟩]) 2 32 Tryz.underlying34 HI.out.1 HI.out.2.1 HI.out.2.2.1 HI.out.2.2.2 rfl (by decide) _ _ _ rfl (World.ownsRow_made (wr.drewN _) #[] 0 (Nat.le_refl _) (Nat.zero_le _) (by simp)) ⟨g, j * 2, none⟩ (S.length - j) _ (flat (S.drop j)) rfl (by rw [flat_len, List.length_drop]) (drop_news HLS.out hg2 j _ _) (flat_one _) (by unfold maxLen; omega) (by omega) (by simp) ?_; intro v8 w8 hown8 hgrow8 hnil8))
                          obtain ⟨h8, cap8, rfl, hh1, hh2, hL8, HO8, f1, f2, hb8, d8⟩ := after17 hbl HO.out hg2 hb' e1 e2 hown8 hgrow8 (fun e => by have := (hnil8.1 e).1; cases this)
                          have HO8 := Lib.hid HO8
                          have HL8 := Lib.hid hL8
                          have hd8 := d8.size
                          clear hown8 hgrow8 hnil8 hL8 e1 e2 HLS HO hb'
                          go_wp2_with fail
                          go_region_held3 (fun w' => w'.cell? ⟨b, o + k * 2, none⟩ = some (.string x.1) ∧ w'.cell? ⟨b, o + k * 2 + 1, none⟩ = some (.string x.2))
                            (first
                              | (go_split_ands; exact ⟨far2 hgrow2 rfl (fun e => by have := (hown1.lt b e.symm).1; omega) (by assumption), far2 hgrow2 rfl (fun e => by have := (hown1.lt b e.symm).1; omega) (by assumption)⟩)
                              | (go_split_ands; exact ⟨far2 hgrow2 rfl (fun e => by have := (hown1.lt b e.symm).1; omega) (far1 hgrow1 hb8 (by simp [Value.ownBlock]; omega) (by assumption)), far2 hgrow2 rfl (fun e => by have := (hown1.lt b e.symm).1; omega) (far1 hgrow1 hb8 (by simp [Value.ownBlock]; omega) (by assumption))⟩)
                              | (go_split_ands; exact ⟨far1 hgrow1 hb8 (by simp [Value.ownBlock]; omega) (by assumption), far1 hgrow1 hb8 (by simp [Value.ownBlock]; omega) (by assumption)⟩)
                              | go_keep)
                            (first
                              | (refine step_append_own _ (by rfl) _ _ _ (by rfl) w.heap.size 63 i0 _ 2 32 Tryz.underlying34 HI.out.1 HI.out.2.1 HI.out.2.2.1 HI.out.2.2.2 rfl (by omega) (.slice (some ⟨g, 0, none⟩) j cap) j (flat (S.take j)) (by rfl) (((ownT_cut HO8.out j hj).alloc _).drew) ⟨w8.heap.size, 0, none⟩ 1 1 [.string x.1, .string x.2] (by rfl) (by rfl) (World.news_of_block (cs := #[.string x.1, .string x.2]) (t := 63) (fr := (0, 0)) (heap_alloc_new w8 _)) (one1T x) (by unfold maxLen; omega) (by omega) (by simp; omega) ?_; intro v1 w1 hown1 hgrow1 hnil1)
                              | (refine step_append_own _ (by rfl) _ _ _ (by rfl) w.heap.size 63 i0 _ 2 32 Tryz.underlying34 HI.out.1 HI.out.2.1 HI.out.2.2.1 HI.out.2.2.2 rfl (by omega) v1 (j + 1) (flat (S.take j) ++ [.string x.1, .string x.2]) (by rfl) hown1 ⟨h8, 0, none⟩ (S.length - j) cap8 (flat (S.drop j)) (by rfl) (by rw [flat_len, List.length_drop]) (news_far HL8.out hh2 hgrow1 (by simp [Value.ownBlock]; omega)) (flat_one _) (by unfold maxLen; omega) (by omega) (by have := hgrow1.size; simp at this ⊢; omega) ?_; intro v2 w2 hown2 hgrow2 hnil2))
                          obtain ⟨HO2, d2⟩ := after18 HP.out d8 (v0 := .slice (some ⟨g, 0, none⟩) j cap) (fun k hk => by cases hk; exact hg1) hown1 hgrow1 hown2 hgrow2 rfl rfl rfl rfl
                          have HO2 := Lib.hid HO2
                          clear hown1 hown2 hgrow1 hgrow2 hnil1 hnil2 HO8 HL8
                          go_wp2_with fail
                          exact ⟨⟨k + 1, _, by omega, HPL, by go_num, fun e => absurd e (Nat.succ_ne_zero k), HR3, HO2, d2⟩, by simp [intOf]; omega⟩
                      · as_aux_lemma =>
                          have hq2 : (y.1.toList == x.1.toList) = true := by rw [HE.out, HDd.out, hcl]
                          have HX2 := Lib.hid (HX.out hcl)
                          clear hcl HX HR4 HDd HE HO4
                          go_wp2_with fail
                          go_quiet (fail)
                          generalize nq = n1
                          go_wp2_with fail
                          go_quiet (fail)
                          go_wp2_with fail
                          go_ret2
                          rw [HX2.out]
                          exact ⟨⟨_, rfl, TRow.nil _⟩, below_drewN (below_drewN (below_drewN hbl _) _) _⟩
                  · as_aux_lemma =>
                      have hq' := HQ.out.trans hq
                      have HJ2 : Hid (∀ i (h : i < S.length), i < j + 1 → lt S[i] x = true) := by
                        intro i h hi
                        rcases Nat.lt_or_ge i j with g1 | g1
                        · exact HJ.out i h g1
                        · have : i = j := by omega
                          subst this
                          exact hq
                      generalize S[j] = y at *
                      clear hq HQ
                      go_wp2_with fail
                      go_quiet (fail)
                      go_wp2_with fail
                      exact ⟨⟨j + 1, _, by have := HJl.out; omega, by go_num, rfl, HJ2⟩, by have := HJl.out; simp [intOf]; omega⟩
                · as_aux_lemma =>
                    have j1 : decide ((j : Int) < (S.length : Int)) = false := decide_eq_false (by omega)
                    have j3 : decide (j < S.length) = false := decide_eq_false (by omega)
                    have HP : Hid (j = pos x S) := pos_eq hj (fun i h hi => HJ.out i h hi) (fun h => absurd h hjl)
                    have HCl := Lib.hid (clash_end HP.out hjl)
                    have HR3 : Hid (order (l.take (k + 1)) = some (put x S)) := by
                      show _ = _
                      rw [HR.out, HT.out, step_some, HCl.out]
                      rfl
                    have HPL : Hid ((put x S).length = k + 1) := by show _ = _; rw [put_len, hSk.out]
                    have HDr := Lib.hid (show S.drop j = [] from List.drop_of_length_le (by omega))
                    clear HR HT HCl HJ
                    by_cases hcj : cap = j
                    · as_aux_lemma =>
                        have hcj2 : j = cap := hcj.symm
                        clear hcj
                        subst hcj2
                        go_wp2_with fail
                        go_quiet (fail)
                        generalize nq = n1
                        go_wp2_with fail
                        go_quiet (fail)
                        go_wp2_with fail
                        obtain ⟨HO8, f1, f2, hb8, d8⟩ := after17e hbl HO.out hb' e1 e2 (n0 + n1 + nq)
                        have hw8 : wr.heap.size < ((wr.drewN (n0 + n1 + nq)).alloc (Obj.cells #[] 63)).heap.size := by simp
                        clear e1 e2 HLS HO hb'
                        generalize (wr.drewN (n0 + n1 + nq)).alloc (Obj.cells #[] 63) = w8 at *
                        have HO8 := Lib.hid HO8
                        have hd8 := d8.size
                        go_region_held3 (fun w' => w'.cell? ⟨b, o + k * 2, none⟩ = some (.string x.1) ∧ w'.cell? ⟨b, o + k * 2 + 1, none⟩ = some (.string x.2))
                          (first
                            | (go_split_ands; exact ⟨far2 hgrow2 rfl (fun e => by have := (hown1.lt b e.symm).1; omega) (by assumption), far2 hgrow2 rfl (fun e => by have := (hown1.lt b e.symm).1; omega) (by assumption)⟩)
                            | (go_split_ands; exact ⟨far1 hgrow1 hb8 (by simp [Value.ownBlock]; omega) (by assumption), far1 hgrow1 hb8 (by simp [Value.ownBlock]; omega) (by assumption)⟩)
                            | go_keep)
                          (first
                            | (refine step_append_own _ (by rfl) _ _ _ (by rfl) w.heap.size 63 i0 _ 2 32 Tryz.underlying34 HI.out.1 HI.out.2.1 HI.out.2.2.1 HI.out.2.2.2 rfl (by omega) (.slice (some ⟨g, 0, none⟩) j j) j (flat (S.take j)) (by rfl) (((ownT_cut HO8.out j hj).alloc _).drew) ⟨w8.heap.size, 0, none⟩ 1 1 [.string x.1, .string x.2] (by rfl) (by rfl) (World.news_of_block (cs := #[.string x.1, .string x.2]) (t := 63) (fr := (0, 0)) (heap_alloc_new w8 _)) (one1T x) (by unfold maxLen; omega) (by omega) (by simp; omega) ?_; intro v1 w1 hown1 hgrow1 hnil1)
                            | (refine step_append_own _ (by rfl) _ _ _ (by rfl) w.heap.size 63 i0 _ 2 32 Tryz.underlying34 HI.out.1 HI.out.2.1 HI.out.2.2.1 HI.out.2.2.2 rfl (by omega) v1 (j + 1) ((flat (S.take j)) ++ [.string x.1, .string x.2]) (by rfl) hown1 ⟨wr.heap.size, 0, none⟩ 0 0 [] (by rfl) (by rfl) (fun i u hu => by simp at hu) (fun u hu => by cases hu) (by unfold maxLen; omega) (by omega) (by have := hgrow1.size; simp at this ⊢; omega) ?_; intro v2 w2 hown2 hgrow2 hnil2))
                        have hSj : S.length - j = 0 := by omega
                        obtain ⟨HO2, d2⟩ := after18 HP.out d8 (v0 := .slice (some ⟨g, 0, none⟩) j j) (fun k hk => by cases hk; exact hg1) hown1 hgrow1 (by rw [hSj, HDr.out]; exact hown2) hgrow2 rfl rfl rfl rfl
                        have HO2 := Lib.hid HO2
                        clear hown1 hown2 hgrow1 hgrow2 hnil1 hnil2 HO8
                        go_wp2_with fail
                        exact ⟨⟨k + 1, _, by omega, HPL, by go_num, fun e => absurd e (Nat.succ_ne_zero k), HR3, HO2, d2⟩, by simp [intOf]; omega⟩
                    · as_aux_lemma =>
                        clear HDr
                        go_wp2_with fail
                        go_quiet (fail)
                        go_wp2_with fail
                        go_quiet (fail)
                        go_wp2_with (first | (at_builtin; refine wpList_append_own _ rfl _ _ 34 rfl wr.heap.size 63 i0 (.agg #[.string ⟨#[]⟩, .string ⟨#[]⟩]) 2 32 Tryz.underlying34 HI.out.1 HI.out.2.1 HI.out.2.2.1 HI.out.2.2.2 rfl (by decide) _ _ _ rfl (World.ownsRow_made (wr.drewN _) #[] 0 (Nat.le_refl _) (Nat.zero_le _) (by simp)) ⟨g, j * 2, none⟩ (S.length - j) _ (flat (S.drop j)) rfl (by rw [flat_len, List.length_drop]) (drop_news HLS.out hg2 j _ _) (flat_one _) (by unfold maxLen; omega) (by omega) (by simp) ?_; intro v8 w8 hown8 hgrow8 hnil8))
                        obtain ⟨h8, cap8, rfl, hh1, hh2, hL8, HO8, f1, f2, hb8, d8⟩ := after17 hbl HO.out hg2 hb' e1 e2 hown8 hgrow8 (fun e => by have := (hnil8.1 e).1; cases this)
                        have HO8 := Lib.hid HO8
                        have HL8 := Lib.hid hL8
                        have hd8 := d8.size
                        clear hown8 hgrow8 hnil8 hL8 e1 e2 HLS HO hb'
                        go_wp2_with fail
                        go_region_held3 (fun w' => w'.cell? ⟨b, o + k * 2, none⟩ = some (.string x.1) ∧ w'.cell? ⟨b, o + k * 2 + 1, none⟩ = some (.string x.2))
                          (first
                            | (go_split_ands; exact ⟨far2 hgrow2 rfl (fun e => by have := (hown1.lt b e.symm).1; omega) (by assumption), far2 hgrow2 rfl (fun e => by have := (hown1.lt b e.symm).1; omega) (by assumption)⟩)
                            | (go_split_ands; exact ⟨far2 hgrow2 rfl (fun e => by have := (hown1.lt b e.symm).1; omega) (far1 hgrow1 hb8 (by simp [Value.ownBlock]; omega) (by assumption)), far2 hgrow2 rfl (fun e => by have := (hown1.lt b e.symm).1; omega) (far1 hgrow1 hb8 (by simp [Value.ownBlock]; omega) (by assumption))⟩)
                            | (go_split_ands; exact ⟨far1 hgrow1 hb8 (by simp [Value.ownBlock]; omega) (by assumption), far1 hgrow1 hb8 (by simp [Value.ownBlock]; omega) (by assumption)⟩)
                            | go_keep)
                          (first
                            | (refine step_append_own _ (by rfl) _ _ _ (by rfl) w.heap.size 63 i0 _ 2 32 Tryz.underlying34 HI.out.1 HI.out.2.1 HI.out.2.2.1 HI.out.2.2.2 rfl (by omega) (.slice (some ⟨g, 0, none⟩) j cap) j (flat (S.take j)) (by rfl) (((ownT_cut HO8.out j hj).alloc _).drew) ⟨w8.heap.size, 0, none⟩ 1 1 [.string x.1, .string x.2] (by rfl) (by rfl) (World.news_of_block (cs := #[.string x.1, .string x.2]) (t := 63) (fr := (0, 0)) (heap_alloc_new w8 _)) (one1T x) (by unfold maxLen; omega) (by omega) (by simp; omega) ?_; intro v1 w1 hown1 hgrow1 hnil1)
                            | (refine step_append_own _ (by rfl) _ _ _ (by rfl) w.heap.size 63 i0 _ 2 32 Tryz.underlying34 HI.out.1 HI.out.2.1 HI.out.2.2.1 HI.out.2.2.2 rfl (by omega) v1 (j + 1) (flat (S.take j) ++ [.string x.1, .string x.2]) (by rfl) hown1 ⟨h8, 0, none⟩ (S.length - j) cap8 (flat (S.drop j)) (by rfl) (by rw [flat_len, List.length_drop]) (news_far HL8.out hh2 hgrow1 (by simp [Value.ownBlock]; omega)) (flat_one _) (by unfold maxLen; omega) (by omega) (by have := hgrow1.size; simp at this ⊢; omega) ?_; intro v2 w2 hown2 hgrow2 hnil2))
                        obtain ⟨HO2, d2⟩ := after18 HP.out d8 (v0 := .slice (some ⟨g, 0, none⟩) j cap) (fun k hk => by cases hk; exact hg1) hown1 hgrow1 hown2 hgrow2 rfl rfl rfl rfl
                        have HO2 := Lib.hid HO2
                        clear hown1 hown2 hgrow1 hgrow2 hnil1 hnil2 HO8 HL8
                        go_wp2_with fail
                        exact ⟨⟨k + 1, _, by omega, HPL, by go_num, fun e => absurd e (Nat.succ_ne_zero k), HR3, HO2, d2⟩, by simp [intOf]; omega⟩
          · have hk' : k = l.length := by omega
            have HE := Lib.hid HT.out
            rw [List.take_of_length_le (by omega)] at HE
            have HF := Lib.hid HO4.out
            rw [HE.out] at HF
            have hr := ownT_row HO.out
            clear HE HO4 HO HT hk' HL HS HI
            go_wp2_with fail
            go_ret2
            rw [HF.out]
            exact ⟨⟨_, rfl, hr⟩, hbl⟩
end Go.Proofs.YtfohknpjlkjbbaaGreatDoor
