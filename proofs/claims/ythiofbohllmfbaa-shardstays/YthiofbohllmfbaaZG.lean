/- Copies: the library's Clone at versions and at entries; the program's own copied: walks. -/
import Derived.Test.YthiofbohllmfbaaZF
namespace Go.Proofs.Ythiofbohllmfbaa.Sh
open Go Go.RowKit Go.Sort Go.Lib Cl Ce Ch

set_option maxRecDepth 100000 in
set_option maxHeartbeats 2000000 in
theorem cloneV_any (v : Value) (l : List Ver) (w : World) (h : VRow w v l) (hn : l.length ≤ 1000000) :
    Calls Try.prog 47 #[v] w fun e w' => (∃ v', e = .returned v' ∧ VOwn w.heap.size w' v' l) ∧ Below w.heap.size w w' := by
  obtain ⟨jv, hi, hz0, hz1, hz2⟩ := info72
  have HJ := Lib.hid (And.intro hi (And.intro hz0 (And.intro hz1 hz2)))
  clear hi hz0 hz1 hz2
  obtain ⟨a, c, rfl, hc, hl⟩ := h
  cases a with
  | none =>
    have hl0 : l = [] := List.length_eq_zero_iff.1 (gat_none hl rfl)
    subst hl0
    clear hl
    have qn : ∀ w : World, Sem.run Try.prog (binOp .eql 57 (.slice none 0 c) (.slice none 0 0)) w = .ok (.bool true) w := fun w => Lib.run_eql_slice_nil w _ _ none _ _ _ _ Try.underlying57
    go_enter Try.func47, Try.ntmps47
    go_wp2_with fail
    go_ret
    exact ⟨⟨_, rfl, VOwn.nil _ _⟩, Below.refl _ _⟩
  | some a =>
    have dA := Lib.hid (aBelow w (.cells #[] 81))
    have HM0 := Lib.hid (World.ownsRow_made (base := w.heap.size) (e := 81) (size := 6) w #[] 0 (Nat.le_refl _) (Nat.zero_le _) (by simp))
    have HZ0 := Lib.hid (dA.out.size)
    have HN0 := Lib.hid (gat_news verC_len (by decide) (hl.on dA.out) a rfl)
    clear hl
    have qn : ∀ w : World, Sem.run Try.prog (binOp .eql 57 (.slice (some a) l.length c) (.slice none 0 0)) w = .ok (.bool false) w := fun w => Lib.run_eql_slice_nil w _ _ (some a) _ _ _ _ Try.underlying57
    go_enter Try.func47, Try.ntmps47
    go_wp2_with (first | (at_builtin; refine wpList_append_own _ rfl _ _ 57 rfl w.heap.size 81 jv (.agg #[.int .i64 0, .int .i64 0, .int .i64 0, .bool false, .int .i64 0, .int .i64 0]) 6 48 Try.underlying57 HJ.out.1 HJ.out.2.1 HJ.out.2.2.1 HJ.out.2.2.2 rfl (by decide) _ _ _ rfl HM0.out a l.length c (flatG verC l) rfl (flatG_len verC_len l) HN0.out (flatG_cells1 verC_one l) (by unfold maxLen; omega) (by omega) HZ0.out ?_; intro v5 w3 hown5 hgrow5 hnil5))
    go_ret
    refine ⟨⟨_, rfl, by simpa [VOwn] using hown5⟩, (dA.out).grown hgrow5 HZ0.out (fun j hj => by cases hj; exact Nat.le_refl _)⟩

set_option maxRecDepth 100000 in
set_option maxHeartbeats 2000000 in
theorem cloneE_any (v : Value) (rs : List Raw) (w : World) (h : GRow rawC 3 w v rs) (hs : ∀ r ∈ rs, VRow w r.sl r.vs) (hn : rs.length ≤ 1000000) :
    Calls Try.prog 46 #[v] w fun e w' => (∃ v', e = .returned v' ∧ w'.ownsRow w.heap.size 59 3 v' rs.length (flatG rawC rs)) ∧ Below w.heap.size w w' := by
  obtain ⟨j0, hi, hz0, hz1, hz2⟩ := info59
  have HI := Lib.hid (And.intro hi (And.intro hz0 (And.intro hz1 hz2)))
  clear hi hz0 hz1 hz2
  obtain ⟨a, c, rfl, hc, hl⟩ := h
  cases a with
  | none =>
    have hl0 : rs = [] := List.length_eq_zero_iff.1 (gat_none hl rfl)
    subst hl0
    clear hl
    have qn : ∀ w : World, Sem.run Try.prog (binOp .eql 22 (.slice none 0 c) (.slice none 0 0)) w = .ok (.bool true) w := fun w => Lib.run_eql_slice_nil w _ _ none _ _ _ _ Try.underlying22
    go_enter Try.func46, Try.ntmps46
    go_wp2_with fail
    go_ret
    exact ⟨⟨_, rfl, ownG_nil _ _ _⟩, Below.refl _ _⟩
  | some a =>
    have dA := Lib.hid (aBelow w (.cells #[] 59))
    have HM0 := Lib.hid (World.ownsRow_made (base := w.heap.size) (e := 59) (size := 3) w #[] 0 (Nat.le_refl _) (Nat.zero_le _) (by simp))
    have HZ0 := Lib.hid (dA.out.size)
    have HN0 := Lib.hid (gat_news rawC_len (by decide) (hl.on dA.out) a rfl)
    have H1 := Lib.hid (raws_one hs)
    clear hl
    have qn : ∀ w : World, Sem.run Try.prog (binOp .eql 22 (.slice (some a) rs.length c) (.slice none 0 0)) w = .ok (.bool false) w := fun w => Lib.run_eql_slice_nil w _ _ (some a) _ _ _ _ Try.underlying22
    go_enter Try.func46, Try.ntmps46
    go_wp2_with (first | (at_builtin; refine wpList_append_own _ rfl _ _ 22 rfl w.heap.size 59 j0 (.agg #[.int .i64 0, .string ⟨#[]⟩, .slice none 0 0]) 3 48 Try.underlying22 HI.out.1 HI.out.2.1 HI.out.2.2.1 HI.out.2.2.2 rfl (by decide) _ _ _ rfl HM0.out a rs.length c (flatG rawC rs) rfl (flatG_len rawC_len rs) HN0.out H1.out (by unfold maxLen; omega) (by omega) HZ0.out ?_; intro v5 w3 hown5 hgrow5 hnil5))
    go_ret
    refine ⟨⟨_, rfl, by simpa using hown5⟩, (dA.out).grown hgrow5 HZ0.out (fun j hj => by cases hj; exact Nat.le_refl _)⟩

theorem VSafe.far {b1 : Nat} {w : World} {sl : Value} {vs : List Ver} (h : VSafe b1 w sl vs) {a : Addr} (hb : b1 ≤ a.block) (ht : ∀ cur, w.heap[a.block]? ≠ some (.cells cur 81 (0, 0))) (u : Value) : VSafe b1 (w.setCell a u) sl vs := by
  have hne : vs ≠ [] → ∀ b, sl.ownBlock = some b → b ≠ a.block := by
    intro hn b hq e
    subst e
    rcases h.2 hn _ hq with q | ⟨cur', q⟩
    · omega
    · exact ht cur' q
  refine ⟨?_, fun hn b hq => ?_⟩
  · obtain ⟨a', c, hv, hc, hl⟩ := h.1
    refine ⟨a', c, hv, hc, fun hn => ?_⟩
    obtain ⟨b, o, ha, hb2, hL⟩ := hl hn
    have hbr : b ≠ a.block := hne hn b (by rw [hv, ha]; rfl)
    refine ⟨b, o, ha, by simpa using hb2, fun i hi j u' hu => ?_⟩
    rw [World.cell?_of_block (a := ⟨b, o + i * 6 + j, none⟩) (Below.heap_setCell w a u b hbr)]
    exact hL i hi j u' hu
  · rcases h.2 hn b hq with q | ⟨cur', q⟩
    · exact Or.inl q
    · exact Or.inr ⟨cur', by rw [Below.heap_setCell w a u b (hne hn b hq)]; exact q⟩
theorem flat_setE (u : Value) (vs : List Ver) : ∀ (rs : List Raw) (k : Nat) (hk : k < rs.length), (flatG rawC rs).set (k * 3 + 2) u = flatG rawC (rs.set k ⟨(rs[k]).win, (rs[k]).key, u, vs⟩)
  | [], _, hk => by simp at hk
  | r :: rs, 0, _ => rfl
  | r :: rs, k + 1, hk => by
    have ih := flat_setE u vs rs k (by simpa using hk)
    have e : (k + 1) * 3 + 2 = (k * 3 + 2) + 1 + 1 + 1 := by omega
    show (Value.int .i64 r.win :: .string r.key :: r.sl :: flatG rawC rs).set ((k + 1) * 3 + 2) u = Value.int .i64 r.win :: .string r.key :: r.sl :: flatG rawC (rs.set k ⟨(rs[k]'(by simpa using hk)).win, (rs[k]'(by simpa using hk)).key, u, vs⟩)
    rw [e, List.set_cons_succ, List.set_cons_succ, List.set_cons_succ, ih]
/-- An entry's versions are put in their place, in a slice that the call made. -/
theorem own_setV {b1 base g n cap : Nat} {w : World} {l : List Ent} {rs : List Raw} {k : Nat} {v5 : Value} {vs : List Ver} (hle : b1 ≤ base) (ho : w.ownsRow base 59 3 (.slice (some ⟨g, 0, none⟩) n cap) rs.length (flatG rawC rs)) (hn : n = rs.length) (hm : rs.map abs = l) (hs : ∀ r ∈ rs, VSafe b1 w r.sl r.vs) (hk : k < rs.length) (h5 : VSafe b1 w v5 vs) :
    OwnS b1 base (w.setCell ⟨g, k * 3 + 2, none⟩ v5) (.slice (some ⟨g, 0, none⟩) n cap) (l.set k ⟨(rs[k]).win, (rs[k]).key, vs⟩) ∧ base ≤ g := by
  subst hn
  have hg : base ≤ g := by
    rcases ho.2 with ⟨h', _⟩ | ⟨g', cap', cur, h', hb, hg, _⟩
    · simp at h'
    · simp only [Value.slice.injEq, Option.some.injEq, Addr.mk.injEq, and_true, true_and] at h'
      obtain ⟨rfl, rfl⟩ := h'
      exact hb
  have ht : ∀ cur, w.heap[g]? ≠ some (.cells cur 81 (0, 0)) := by
    intro cur0 e
    rcases ho.2 with ⟨h', _⟩ | ⟨g', cap', cur, h', hb, hg, _⟩
    · simp at h'
    · simp only [Value.slice.injEq, Option.some.injEq, Addr.mk.injEq, and_true, true_and] at h'
      obtain ⟨rfl, rfl⟩ := h'
      rw [hg] at e
      injection e with e; injection e with _ e2; exact absurd e2 (by decide)
  obtain ⟨q1, -⟩ := ho.stored (k * 3 + 2) v5
  rw [flat_setE v5 vs rs k hk] at q1
  refine ⟨⟨rs.set k ⟨(rs[k]).win, (rs[k]).key, v5, vs⟩, by rw [List.length_set]; exact q1, ?_, fun r hr => ?_⟩, hg⟩
  · rw [List.map_set, hm]; rfl
  · rcases List.mem_or_eq_of_mem_set hr with hr | rfl
    · exact (hs r hr).far (a := ⟨g, k * 3 + 2, none⟩) (Nat.le_trans hle hg) ht v5
    · exact h5.far (a := ⟨g, k * 3 + 2, none⟩) (Nat.le_trans hle hg) ht v5
theorem own_form {base n c : Nat} {w : World} {a : Option Addr} {T k m : Nat} {xs : List Value} (ho : w.ownsRow base T k (.slice a n c) m xs) (hn : n = m) (h0 : 0 < n) : ∃ g, a = some ⟨g, 0, none⟩ := by
  subst hn
  rcases ho.2 with ⟨h', h2⟩ | ⟨g', cap', cur, h', hb, hg, _⟩
  · omega
  · injection h' with h1 _ _; exact ⟨g', h1⟩
theorem own_sl {base n c g : Nat} {w : World} {rs : List Raw} (ho : w.ownsRow base 59 3 (.slice (some ⟨g, 0, none⟩) n c) rs.length (flatG rawC rs)) (hn : n = rs.length) (k : Nat) (hk : k < rs.length) : w.cell? ⟨g, k * 3 + 2, none⟩ = some (rs[k]).sl := by
  subst hn
  rw [ho.cellAt (k * 3 + 2) (by omega), flatG_at rawC_len rs k hk 2 (by decide)]; rfl
theorem ho2_free {base n c g : Nat} {w : World} {rs : List Raw} (ho : w.ownsRow base 59 3 (.slice (some ⟨g, 0, none⟩) n c) rs.length (flatG rawC rs)) (hn : n = rs.length) (j : Nat) : w.frozen? ⟨g, j, none⟩ = false := by
  subst hn; exact ho.frozenAt j
theorem set_same {l : List Ent} {k : Nat} (hk : k < l.length) {x : Ent} (h : l[k] = x) : l.set k x = l := by
  subst h
  exact List.set_getElem_self hk

set_option maxRecDepth 100000 in
set_option maxHeartbeats 4000000 in
theorem copied_any (b1 : Nat) (w0 : World) (v : Value) (l : List Ent) (w : World) (h : SRow w0 v l) (hb1 : w0.heap.size = b1) (n0 : Below b1 w0 w) (hn : l.length ≤ 1000) (hv : ∀ e ∈ l, e.vs.length ≤ 1000) :
    Calls Try.prog 25 #[v] w fun e w' => (∃ v', e = .returned v' ∧ OwnS b1 w.heap.size w' v' l) ∧ Below w.heap.size w w' := by
  have hbw : b1 ≤ w.heap.size := by have := n0.size; omega
  obtain ⟨rs, hg0, hm, h30⟩ := h
  have hg := hg0.on (by rw [hb1]; exact n0)
  have h3 : ∀ r ∈ rs, VRow w r.sl r.vs := fun r hr => (h30 r hr).on (by rw [hb1]; exact n0)
  have hrl : rs.length = l.length := by rw [← hm, List.length_map]
  have HC := Lib.hid (cloneE_any v rs w hg h3 (by omega))
  have HV := Lib.hid (fun k (hk : k < l.length) => hv _ (List.getElem_mem hk))
  have H3 := Lib.hid h30
  have HM := Lib.hid hm
  have HRL := Lib.hid hrl
  obtain ⟨a, c, rfl, -, -⟩ := hg
  clear hv h3 h30 hm hrl hg0
  go_enter Try.func25, Try.ntmps25
  go_wp2_with (go_at_call 46; refine HC.out.mono ?_; rintro e w1 ⟨⟨v1, rfl, ho1⟩, n1⟩; obtain ⟨a1, c1, hv1, -, -⟩ := ownG_row rawC_len ho1; subst hv1)
  have HO1 : Hid (OwnS b1 w.heap.size w1 (.slice a1 rs.length c1) l) := ⟨rs, ho1, HM.out, fun r hr => vsafe_old (H3.out r hr) hb1 (n0.trans (n1.mono hbw))⟩
  have D1 := Lib.hid n1
  clear HC ho1 n1 HM H3
  rw [HRL.out] at *
  clear HRL
  go_loopw [9] (fun i wr => ∃ k : Nat, k ≤ l.length ∧ i = .int .i64 k ∧ Hid (OwnS b1 w.heap.size wr (.slice a1 l.length c1) l) ∧ Hid (Below w.heap.size w wr)) (fun i _ => l.length - (intOf i).toNat)
  case atStart => exact ⟨0, Nat.zero_le _, rfl, HO1, D1⟩
  case round =>
    obtain ⟨k, hk, rfl, HO, HD⟩ := hrel
    clear HO1 D1
    by_cases hlt : k < l.length
    · obtain ⟨rs, ho, hm, hs⟩ := HO.out
      have hrl : rs.length = l.length := by rw [← hm, List.length_map]
      have hkr : k < rs.length := by omega
      obtain ⟨g, ha⟩ := own_form ho hrl.symm (by omega)
      subst ha
      have e2 := own_sl ho hrl.symm k hkr
      have f2 := ho2_free ho hrl.symm (k * 3 + 2)
      have hab : abs rs[k] = l[k] := by subst hm; exact (List.getElem_map abs).symm
      have hlv := HV.out k hlt
      have hsk := hs _ (List.getElem_mem hkr)
      have i1 : (k : Int) < (l.length : Int) := by omega
      have i2 : (0 : Int) ≤ (k : Int) := by omega
      have HCV := Lib.hid (cloneV_any (rs[k]).sl (rs[k]).vs wr hsk.1 (by have : (rs[k]).vs = (l[k]).vs := by rw [← hab]; rfl
                                                                         rw [this]; omega))
      have hglt : g < wr.heap.size := World.block_lt_of_cell? _ _ e2
      have HK := Lib.hid (fun (w2 : World) (v5 : Value) (n2 : Below wr.heap.size wr w2) (h5 : VOwn wr.heap.size w2 v5 (rs[k]).vs) => own_setV (n := l.length) (cap := c1) (k := k) (v5 := v5) hbw (own_on ho n2) hrl.symm hm (fun r hr => (hs r hr).on n2) hkr (vsafe_own h5))
      have HSS := Lib.hid (set_same hlt (x := ⟨(rs[k]).win, (rs[k]).key, (rs[k]).vs⟩) (by rw [← hab]; rfl))
      have hsl := vrow_one hsk.1
      generalize rs[k] = x at *
      obtain ⟨x0, x1, x2, x3⟩ := x
      simp only at e2 HCV HK hsl HSS
      clear ho hm hs hsk hab hlv hrl
      go_wp2_with (go_at_call 47; refine HCV.out.mono ?_; rintro e w2 ⟨⟨v5, rfl, h5⟩, n2⟩; have g2 := keepC n2 e2 hglt; have f3 : w2.frozen? ⟨g, k * 3 + 2, none⟩ = false := (by rw [n2.frozen (p := ⟨g, k * 3 + 2, none⟩) hglt]; exact f2); obtain ⟨a5, c5, hv5, -, -⟩ := h5.row; subst hv5)
      have HQ := Lib.hid (HK.out _ _ n2 h5)
      have HD2 := Lib.hid ((HD.out.trans (n2.mono HD.out.size)).setCell (p := ⟨g, k * 3 + 2, none⟩) HQ.out.2 (.slice a5 x3.length c5))
      rw [HSS.out] at HQ
      exact ⟨⟨k + 1, by omega, by go_num, HQ.out.1, HD2.out⟩, by simp [intOf]; omega⟩
    · have i1 : ¬ (k : Int) < (l.length : Int) := by omega
      go_wp2_with fail
      go_ret
      exact ⟨⟨_, rfl, HO.out⟩, HD.out⟩
end Go.Proofs.Ythiofbohllmfbaa.Sh
