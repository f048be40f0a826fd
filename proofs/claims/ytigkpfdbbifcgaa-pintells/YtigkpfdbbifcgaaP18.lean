/- Walks of pin: the document's Drop. -/
import Derived.Test.YtigkpfdbbifcgaaP17
namespace Go.Proofs.Ytigkpfdbbifcgaa.Pj
open Go Go.RowKit

set_option maxRecDepth 100000 in
theorem infoP : ∃ i, Try.prog.info? 35 = some i ∧ i.zero = some (.agg #[.int .i64 0, .int .i64 0]) ∧ i.size = 2 ∧ i.bytes = 16 := ⟨_, rfl, rfl, rfl, rfl⟩
theorem cutP_tail (a : Option Addr) (c n k : Nat) (hk : k ≤ n) (w : World) : Sem.run Try.prog (Instr.sliceAt 22 (.slice a n c) (some (.int .i64 (k : Int))) none none) w = .ok (.slice (if c = k then a else a.map (·.add (k * 2))) (n - k) (c - k)) w := by
  have h0 : (0 : Int) ≤ (k : Int) := by omega
  have h1 : (k : Int) ≤ (n : Int) := by omega
  have hu := Try.underlying22
  go_simp
theorem cutP_head (a : Option Addr) (c n k : Nat) (hk : k ≤ n) (hn : n ≤ c) (w : World) : Sem.run Try.prog (Instr.sliceAt 22 (.slice a n c) none (some (.int .i64 (k : Int))) none) w = .ok (.slice a k c) w := by
  have h0 : (0 : Int) ≤ (k : Int) := by omega
  have h1 : (k : Int) ≤ (c : Int) := by omega
  have hu := Try.underlying22
  go_simp

/-- Behind the first of the two. -/
theorem drop_mid {w w1 : World} {v1 : Value} {n : Nat} {L1 L2 : List Pn} {ad : Addr} (dA : Below w.heap.size w (w.alloc (.cells #[] 35)).drew) (hown : w1.ownsRow w.heap.size 35 2 v1 (0 + n) ([] ++ flatG pC L1)) (hgrow : ((w.alloc (.cells #[] 35)).drew).grownBy w1 (Value.slice (some ⟨w.heap.size, 0, none⟩) 0 0).ownBlock) (hg : PAt w (some ad) L2) :
    w1.ownsRow w.heap.size 35 2 v1 n (flatG pC L1) ∧ Below w.heap.size w w1 ∧ ∀ j u, (flatG pC L2)[j]? = some u → w1.cell? (ad.add j) = some u := by
  have d1 : Below w.heap.size w w1 := dA.grown hgrow (by simp) (fun k hk => by have hk : some w.heap.size = some k := hk; injection hk with hk; omega)
  exact ⟨by simpa using hown, d1, gat_news pC_len (by decide) (hg.on d1) _ rfl⟩

set_option maxRecDepth 100000 in
set_option maxHeartbeats 2000000 in
theorem refDrop_any (v : Value) (l : List Pn) (id : Int) (w : World) (h : PRow w v l) (hn : l.length ≤ 1000000) :
    Calls Try.prog 11 #[v, .int .i64 id] w fun e w' => (∃ v', e = .returned (.tuple #[v', .int .i64 (dropP l id).2]) ∧ PRow w' v' (dropP l id).1) ∧ Below w.heap.size w w' := by
  obtain ⟨j0, hi, hz0, hz1, hz2⟩ := infoP
  have HI := Lib.hid (And.intro hi (And.intro hz0 (And.intro hz1 hz2)))
  clear hi hz0 hz1 hz2
  obtain ⟨a, c, rfl, hc, hl⟩ := h
  have HL := Lib.hid hl
  clear hl
  obtain ⟨F, HF⟩ : ∃ F, Hid (dropP l id = F) := ⟨_, Lib.hid rfl⟩
  rw [HF.out]
  go_enter Try.func11, Try.ntmps11
  go_wp2_with fail
  go_loop [6] (fun i => ∃ k : Nat, k ≤ l.length ∧ i = .int .i64 k ∧ Hid (NoneUp id l k)) (fun i => l.length - (intOf i).toNat)
  case atStart => exact ⟨0, Nat.zero_le _, rfl, Lib.hid (none_zero _ _)⟩
  case round =>
    obtain ⟨k, hk, rfl, HT⟩ := hrel
    by_cases hlt : k < l.length
    · have HAT := HL
      obtain ⟨b, o, rfl, hb, hL⟩ := HL.out (ne_of_lt hlt)
      obtain ⟨e0, e1⟩ := p_at hL k hlt
      have i1 : (k : Int) < (l.length : Int) := by omega
      have i2 : (0 : Int) ≤ (k : Int) := by omega
      have HX := Lib.hid (fun h1 => none_next HT.out hlt h1)
      have HY : Hid ((l[k]).id = id → F = (l.eraseIdx k, 0)) := Lib.hid (fun h1 => by rw [← HF.out, dropP, none_here HT.out hlt h1, if_pos hlt])
      generalize l[k] = x at *
      obtain ⟨xi, xs⟩ := x
      simp only at e0 e1 HX HY
      clear hL HT
      by_cases hx : xi = id
      · have hF := HY.out hx
        subst hF
        have g1 : (xi == id) = true := by simp [hx]
        clear HX HY HF
        have i3 : IntKind.i64.wrap ((k : Int) + 1) = ((k + 1 : Nat) : Int) := by rw [IntKind.wrap_i64]; omega
        have hcut1 := cutP_head (some ⟨b, o, none⟩) c l.length k (by omega) hc
        have hcut2 := cutP_tail (some ⟨b, o, none⟩) c l.length (k + 1) (by omega)
        have HG1 := Lib.hid (gat_head HAT.out k)
        have HG2 := Lib.hid (gat_tail HAT.out hc (k + 1))
        obtain ⟨ad, had⟩ : ∃ ad, (if c = k + 1 then some ⟨b, o, none⟩ else (some (⟨b, o, none⟩ : Addr)).map (·.add ((k + 1) * 2))) = some ad := by split <;> exact ⟨_, rfl⟩
        rw [had] at hcut2 HG2
        rw [show ((k + 1 : Nat) : Int) = (k : Int) + 1 by omega] at hcut2
        have HD1 : Hid ((l.take k).length = k) := Lib.hid (by rw [List.length_take]; omega)
        obtain ⟨M, hM⟩ : ∃ M, l.length - (k + 1) = M := ⟨_, rfl⟩
        have HD2 : Hid ((l.drop (k + 1)).length = M) := Lib.hid (by rw [List.length_drop]; exact hM)
        rw [hM] at hcut2
        have HE : Hid (l.eraseIdx k = l.take k ++ l.drop (k + 1)) := Lib.hid (List.eraseIdx_eq_take_drop_succ _ _)
        have hMl : k + M ≤ 1000000 := by omega
        obtain ⟨L1, hL1⟩ : ∃ L1, l.take k = L1 := ⟨_, rfl⟩
        obtain ⟨L2, hL2⟩ : ∃ L2, l.drop (k + 1) = L2 := ⟨_, rfl⟩
        rw [hL1] at HG1 HD1 HE
        rw [hL2] at HG2 HD2 HE
        have dA := Lib.hid ((aBelow w (.cells #[] 35)).drew)
        have HN1 := Lib.hid (gat_news pC_len (by decide) (HG1.out.on dA.out) _ rfl)
        have HM0 := Lib.hid (show ((w.alloc (.cells #[] 35)).drew).ownsRow w.heap.size 35 2 (.slice (some ⟨w.heap.size, 0, none⟩) 0 0) 0 [] from World.ownsRow_made (base := w.heap.size) (e := 35) (size := 2) w #[] 0 (Nat.le_refl _) (Nat.zero_le _) (by simp))
        clear had hL1 hL2 hM HL
        go_wp2_with fail
        go_region_law (first
          | (rename_i Kx hKx; have hq := H1; refine step_append_own _ (by rfl) _ _ 22 (by rfl) w.heap.size 35 j0 (.agg #[.int .i64 0, .int .i64 0]) 2 16 Try.underlying22 HI.out.1 HI.out.2.1 HI.out.2.2.1 HI.out.2.2.2 rfl (by decide) v1 k (flatG pC L1) (by simp [Act.eval]) H1.out.1 ad M (c - (k + 1)) (flatG pC L2) (by simp [Act.eval]) (by rw [flatG_len pC_len, HD2.out]) H1.out.2.2 (flatG_cells1 pC_one _) (by unfold maxLen; omega) (by omega) H1.out.2.1.size ?_; intro v2 w2 hown2 hgrow2 hnil2; have H2 := Lib.hid (And.intro hown2 hgrow2); clear hown2 hgrow2 hnil2; refine hKx _ _ ?_; clear hKx Kx hq)
          | (rename_i Kx hKx; refine step_append_own _ (by rfl) _ _ 22 (by rfl) w.heap.size 35 j0 (.agg #[.int .i64 0, .int .i64 0]) 2 16 Try.underlying22 HI.out.1 HI.out.2.1 HI.out.2.2.1 HI.out.2.2.2 rfl (by decide) (.slice (some ⟨w.heap.size, 0, none⟩) 0 0) 0 [] (by simp [Act.eval]) HM0.out ⟨b, o, none⟩ k c (flatG pC L1) (by simp [Act.eval]) (by rw [flatG_len pC_len, HD1.out]) HN1.out (flatG_cells1 pC_one _) (by unfold maxLen; omega) (by omega) (by simp) ?_; intro v1 w1 hown1 hgrow1 hnil1; have H1 := Lib.hid (drop_mid dA.out hown1 hgrow1 HG2.out); clear hown1 hgrow1 hnil1 HN1 HM0; refine hKx _ _ ?_; clear hKx Kx)
          | fail)
        have D2 := Lib.hid (own_grew H1.out.2.1 H1.out.2.1.size H1.out.1 H2.out.2)
        have HV := Lib.hid (ownG_row pC_len (own_more HD2.out (by rw [HD1.out]; exact H2.out.1)))
        rw [← HE.out] at HV
        obtain ⟨a2, c2, hv2, -, -⟩ := HV.out
        clear H1 H2 HG1 HG2 HE dA HI
        subst hv2
        go_wp2_with fail
        exact bodyPost_ret (v := .tuple #[.slice a2 (l.eraseIdx k).length c2, .int .i64 0]) (by simp [results, Try.results11, go_sem]) rfl ⟨⟨_, rfl, HV.out⟩, D2.out⟩
      · have HZ := Lib.hid (HX.out hx)
        have g1 : (xi == id) = false := by simp [hx]
        clear HX HY
        go_wp2_with fail
        exact ⟨⟨k + 1, by omega, by go_num, HZ⟩, by simp [intOf]; omega⟩
    · have i1 : ¬ (k : Int) < (l.length : Int) := by omega
      have hF : F = ([], 6) := by rw [← HF.out, dropP, none_all HT.out hlt, if_neg (Nat.lt_irrefl _)]
      subst hF
      go_wp2_with fail
      exact bodyPost_ret (v := .tuple #[.slice none 0 0, .int .i64 6]) (by simp [results, Try.results11, go_sem]) rfl ⟨⟨_, rfl, GRow.nil _⟩, Below.refl _ _⟩
end Go.Proofs.Ytigkpfdbbifcgaa.Pj
