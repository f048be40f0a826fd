/- Plain mathematics of shards: what a write makes; what stays when a shard is pruned. -/
import Derived.Test.YthiofbohllmfbaaM10
namespace Go.Proofs.Ythiofbohllmfbaa.Sh
open Go Cl Ch

/-! ### a write -/
theorem ahead_take (w : Int) (k : ByteArray) : ∀ l : List Ent, ∀ e ∈ l.take (aheadN w k l), plt e.win e.key w k = true
  | [], e, he => by simp at he
  | a :: r, e, he => by
    rw [aheadN] at he
    by_cases h : plt a.win a.key w k = true
    · rw [if_pos h, List.take_succ_cons] at he
      rcases List.mem_cons.1 he with rfl | he
      · exact h
      · exact ahead_take w k r e he
    · rw [if_neg h] at he; simp at he
theorem ahead_stop (w : Int) (k : ByteArray) : ∀ (l : List Ent) (e : Ent) (r : List Ent), l.drop (aheadN w k l) = e :: r → plt e.win e.key w k = false
  | [], e, r, h => by simp at h
  | a :: s, e, r, h => by
    rw [aheadN] at h
    by_cases h1 : plt a.win a.key w k = true
    · rw [if_pos h1, List.drop_succ_cons] at h
      exact ahead_stop w k s e r h
    · rw [if_neg h1, List.drop_zero] at h
      injection h with h2 h3
      subst h2
      simpa using h1
/-- What a write makes. -/
def madeS (x : Wri) (old : List Ver) : Ent := ⟨x.win, x.key, old ++ [⟨x.st, fold (lastC old) x.val⟩]⟩
theorem applyS_spec (l : List Ent) (x : Wri) :
    applyS l x = ([], 9) ∨ (sright l = true ∧ ∃ P M S old, l = P ++ M ++ S ∧ applyS l x = (P ++ [madeS x old] ++ S, 0) ∧ ((M = [] ∧ old = []) ∨ ∃ e, M = [e] ∧ e.win = x.win ∧ e.key = x.key ∧ old = e.vs) ∧ (∀ e ∈ P, plt e.win e.key x.win x.key = true) ∧ (∀ e ∈ S, plt x.win x.key e.win e.key = true) ∧ vright (madeS x old).vs = true) := by
  by_cases hs : sright l = true
  · have key : ∀ old t, oldV x.win x.key (l.drop (aheadN x.win x.key l)) = old → oldN x.win x.key (l.drop (aheadN x.win x.key l)) = t → applyS l x = ([], 9) ∨ (vright (madeS x old).vs = true ∧ applyS l x = (l.take (aheadN x.win x.key l) ++ [madeS x old] ++ l.drop (aheadN x.win x.key l + t), 0)) := by
      intro old t h1 h2
      unfold applyS
      rw [if_pos hs, h1, h2]
      by_cases hv : vright (old ++ [⟨x.st, fold (lastC old) x.val⟩]) = true
      · right
        refine ⟨hv, ?_⟩
        have hf : foldV old x.st x.val = (old ++ [⟨x.st, fold (lastC old) x.val⟩], 0) := putV_ok hv
        rw [hf, if_pos rfl]; rfl
      · left
        have hf : foldV old x.st x.val = ([], 9) := putV_no (by simpa using hv)
        rw [hf, if_neg (by decide)]
    have hP := ahead_take x.win x.key l
    have hpw := (sright_true.1 hs).2
    have hl : l = l.take (aheadN x.win x.key l) ++ l.drop (aheadN x.win x.key l) := (List.take_append_drop _ _).symm
    cases hd : l.drop (aheadN x.win x.key l) with
    | nil =>
      rcases key [] 0 (by rw [hd]; rfl) (by rw [hd]; rfl) with h | ⟨h1, h2⟩
      · exact Or.inl h
      · refine Or.inr ⟨hs, l.take (aheadN x.win x.key l), [], [], [], ?_, ?_, Or.inl ⟨rfl, rfl⟩, hP, fun e he => by simp at he, h1⟩
        · rw [hd] at hl; simpa using hl
        · rw [h2, Nat.add_zero, hd]
    | cons e r =>
      have hst := ahead_stop x.win x.key l e r hd
      rw [hd] at hl
      have hpe : ∀ z ∈ r, plt e.win e.key z.win z.key = true := by
        rw [hl, List.pairwise_append] at hpw
        exact (List.pairwise_cons.1 hpw.2.1).1
      by_cases hh : hitE x.win x.key e = true
      · obtain ⟨q1, q2⟩ := hitE_true.1 hh
        have hdr : l.drop (aheadN x.win x.key l + 1) = r := by rw [← List.drop_drop, hd, List.drop_succ_cons, List.drop_zero]
        rcases key e.vs 1 (by rw [hd]; show (if _ then _ else _) = _; rw [if_pos hh]) (by rw [hd]; show (if _ then _ else _) = _; rw [if_pos hh]) with h | ⟨h1, h2⟩
        · exact Or.inl h
        · refine Or.inr ⟨hs, l.take (aheadN x.win x.key l), [e], r, e.vs, ?_, ?_, Or.inr ⟨e, rfl, q1, q2, rfl⟩, hP, fun z hz => ?_, h1⟩
          · rw [List.append_assoc]; exact hl
          · rw [h2, hdr]
          · rw [← q1, ← q2]; exact hpe z hz
      · rcases key [] 0 (by rw [hd]; show (if _ then _ else _) = _; rw [if_neg hh]) (by rw [hd]; show (if _ then _ else _) = _; rw [if_neg hh]) with h | ⟨h1, h2⟩
        · exact Or.inl h
        · have hxe : plt x.win x.key e.win e.key = true := by
            rcases plt_total e.win x.win e.key x.key with h | ⟨h, h'⟩ | h
            · rw [h] at hst; cases hst
            · exact absurd (hitE_true.2 ⟨h, h'⟩) hh
            · exact h
          refine Or.inr ⟨hs, l.take (aheadN x.win x.key l), [], e :: r, [], ?_, ?_, Or.inl ⟨rfl, rfl⟩, hP, fun z hz => ?_, h1⟩
          · rw [List.append_nil]; exact hl
          · rw [h2, Nat.add_zero, hd]
          · rcases List.mem_cons.1 hz with rfl | hz
            · exact hxe
            · exact plt_trans hxe (hpe z hz)
  · left
    unfold applyS
    rw [if_neg hs]
/-- How much there may be behind a write. -/
theorem applyS_len (l : List Ent) (x : Wri) (n : Nat) (h : ∀ e ∈ l, e.vs.length ≤ n) : (applyS l x).1.length ≤ l.length + 1 ∧ ∀ e ∈ (applyS l x).1, e.vs.length ≤ n + 1 := by
  rcases applyS_spec l x with h0 | ⟨_, P, M, S, old, hl, h0, hM, _, _, _⟩
  · rw [h0]; exact ⟨by simp, fun e he => by simp at he⟩
  · rw [h0]
    have hold : old.length ≤ n := by
      rcases hM with ⟨_, rfl⟩ | ⟨e, rfl, _, _, rfl⟩
      · simp
      · exact h e (by rw [hl]; simp)
    refine ⟨?_, fun e he => ?_⟩
    · show (P ++ [madeS x old] ++ S).length ≤ _
      rw [hl]; simp; omega
    · have he' : e ∈ P ++ [madeS x old] ++ S := he
      rw [List.mem_append, List.mem_append, List.mem_singleton] at he'
      rcases he' with (he' | rfl) | he'
      · have := h e (by rw [hl]; simp [he']); omega
      · show (old ++ [_]).length ≤ _
        simp; omega
      · have := h e (by rw [hl]; simp [he']); omega

/-! ### pruned -/
theorem prune_two {l : List Ver} (h : vright l = true) {f g : Int} (hfg : f ≤ g) : prune (prune l f) g = prune l g := by
  obtain ⟨A, B, rfl, hA, hB⟩ := rise_split (vright_true.1 h).2 g
  obtain ⟨C, D, rfl, hC, hD⟩ := rise_split ((vright_true.1 h).2.sublist (List.sublist_append_left A B)) f
  have hDB : ∀ v ∈ D ++ B, f < v.st := by
    intro v hv
    rcases List.mem_append.1 hv with hv | hv
    · exact hD v hv
    · have := hB v hv; omega
  rw [List.append_assoc, prune_split hC hDB, ← List.append_assoc, ← List.append_assoc]
  have h1 : ∀ v ∈ C.getLast?.toList ++ D, v.st ≤ g := by
    intro v hv
    rcases List.mem_append.1 hv with hv | hv
    · rw [Option.mem_toList] at hv
      have := hC v (List.mem_of_getLast? hv); omega
    · exact hA v (by simp [hv])
  rw [prune_split h1 hB, prune_split hA hB]
  congr 1
  rcases List.eq_nil_or_concat D with rfl | ⟨D', d, rfl⟩
  · rw [List.append_nil, List.append_nil]
    cases C.getLast? <;> rfl
  · rw [List.concat_eq_append, ← List.append_assoc, ← List.append_assoc]
    simp
theorem prune_some {l : List Ver} (h : vright l = true) (hne : l ≠ []) (f : Int) : prune l f ≠ [] := by
  obtain ⟨A, B, rfl, hA, hB⟩ := rise_split (vright_true.1 h).2 f
  rw [prune_split hA hB]
  rcases List.eq_nil_or_concat A with rfl | ⟨A', a, rfl⟩
  · simpa using hne
  · simp
theorem prunedE_in {e : Ent} (h : eIn e = true) (f : Int) : eIn (prunedE f e) = true := by
  rw [eIn_true] at *
  exact ⟨prune_some h.2 h.1 f, (prune_facts h.2 f).2.1⟩
theorem pruneS_right {l : List Ent} (h : sright l = true) (f : Int) (ds : List Drp) : sright (pruneS l f ds) = true := by
  rw [sright_true] at *
  unfold pruneS
  refine ⟨fun e he => ?_, ?_⟩
  · obtain ⟨e', he', rfl⟩ := List.mem_map.1 he
    exact prunedE_in (h.1 e' (List.mem_filter.1 he').1) f
  · rw [List.pairwise_map]
    exact (h.2.sublist List.filter_sublist).imp (fun {a b} hab => hab)
theorem map_congr_in {α β : Type} {f g : α → β} {l : List α} (h : ∀ x ∈ l, f x = g x) : l.map f = l.map g := List.map_congr_left h
theorem readS_pruned {l : List Ent} (h : sright l = true) {f s : Int} (hfs : f ≤ s) (ds : List Drp) : readS (pruneS l f ds) s ds = readS l s ds := by
  have hin := (sright_true.1 h).1
  clear h
  induction l with
  | nil => rfl
  | cons e r ih =>
    have ih' := ih (fun x hx => hin x (by simp [hx]))
    have he := eIn_true.1 (hin e (by simp))
    have e1 : readS (e :: r) s ds = readS [e] s ds ++ readS r s ds := readS_append [e] r s ds
    have e2 : pruneS (e :: r) f ds = pruneS [e] f ds ++ pruneS r f ds := pruneS_append [e] r f ds
    rw [e1, e2, readS_append, ih']
    congr 1
    rw [pruneS_one]
    cases hd : dropped ds e.win f
    · rw [if_neg (by decide), readS_one, readS_one]
      have hat := (prune_facts he.2 f).2.2.1 s hfs
      show (if takenE s ds ⟨e.win, e.key, prune e.vs f⟩ = true then [(⟨e.win, e.key, atS (prune e.vs f) s⟩ : Itm)] else []) = if takenE s ds e = true then [(⟨e.win, e.key, atS e.vs s⟩ : Itm)] else []
      have ht : takenE s ds ⟨e.win, e.key, prune e.vs f⟩ = takenE s ds e := by
        show (decide (1 ≤ (atS (prune e.vs f) s).cnt) && !dropped ds e.win s) = (decide (1 ≤ (atS e.vs s).cnt) && !dropped ds e.win s)
        rw [hat]
      rw [ht, hat]
    · rw [if_pos rfl, readS_nil, readS_one]
      have : takenE s ds e = false := by
        unfold takenE
        rw [dropped_mono hfs hd]; simp
      rw [this, if_neg (by decide)]
theorem pruneS_two {l : List Ent} (h : sright l = true) {f g : Int} (hfg : f ≤ g) (ds : List Drp) : pruneS (pruneS l f ds) g ds = pruneS l g ds := by
  have hin := (sright_true.1 h).1
  clear h
  induction l with
  | nil => rfl
  | cons e r ih =>
    have ih' := ih (fun x hx => hin x (by simp [hx]))
    have he := eIn_true.1 (hin e (by simp))
    have e1 : pruneS (e :: r) g ds = pruneS [e] g ds ++ pruneS r g ds := pruneS_append [e] r g ds
    have e2 : pruneS (e :: r) f ds = pruneS [e] f ds ++ pruneS r f ds := pruneS_append [e] r f ds
    rw [e1, e2, pruneS_append, ih']
    congr 1
    rw [pruneS_one, pruneS_one]
    cases hd : dropped ds e.win f
    · rw [if_neg (by decide), pruneS_one]
      show (if dropped ds e.win g = true then [] else [(⟨e.win, e.key, prune (prune e.vs f) g⟩ : Ent)]) = if dropped ds e.win g = true then [] else [(⟨e.win, e.key, prune e.vs g⟩ : Ent)]
      rw [prune_two he.2 hfg]
    · rw [if_pos rfl, pruneS_nil, dropped_mono hfg hd, if_pos rfl]

/-! ### what is applied is read -/
theorem plt_hit {w : Int} {k : ByteArray} {e : Ent} (h : plt e.win e.key w k = true ∨ plt w k e.win e.key = true) : hitE w k e = false := by
  cases hc : hitE w k e
  · rfl
  · obtain ⟨q1, q2⟩ := hitE_true.1 hc
    rw [q1, q2] at h
    rcases h with h | h <;> (rw [plt_irrefl] at h; cases h)
def hitI (w : Int) (k : ByteArray) (i : Itm) : Bool := decide (i.win = w) && eqB i.key k
theorem hitI_of (w : Int) (k : ByteArray) (s : Int) (e : Ent) : hitI w k (itemOf s e) = hitE w k e := rfl
/-- The cell that was there, and what was read beside it. -/
def wasC (w : Int) (k : ByteArray) (l : List Itm) : Cell := l.foldl (fun c i => if hitI w k i = true then i.c else c) zero
def restI (w : Int) (k : ByteArray) (l : List Itm) : List Itm := l.filter fun i => !hitI w k i
def foundB (w : Int) (k : ByteArray) (d : Cell) (l : List Itm) : Bool := l.foldl (fun b i => if hitI w k i = true then eqC i.c d else b) false
theorem read_nohit {w : Int} {k : ByteArray} {l : List Ent} (h : ∀ e ∈ l, hitE w k e = false) (s : Int) : ∀ i ∈ readS l s [], hitI w k i = false := by
  intro i hi
  unfold readS at hi
  obtain ⟨e, he, rfl⟩ := List.mem_map.1 hi
  rw [hitI_of]
  exact h e (List.mem_filter.1 he).1
theorem wasC_skip {w : Int} {k : ByteArray} : ∀ {l : List Itm} (c : Cell), (∀ i ∈ l, hitI w k i = false) → l.foldl (fun c i => if hitI w k i = true then i.c else c) c = c
  | [], _, _ => rfl
  | a :: r, c, h => by
    rw [List.foldl_cons, h a (by simp), if_neg (by decide)]
    exact wasC_skip c (fun i hi => h i (by simp [hi]))
theorem foundB_skip {w : Int} {k : ByteArray} {d : Cell} : ∀ {l : List Itm} (c : Bool), (∀ i ∈ l, hitI w k i = false) → l.foldl (fun b i => if hitI w k i = true then eqC i.c d else b) c = c
  | [], _, _ => rfl
  | a :: r, c, h => by
    rw [List.foldl_cons, h a (by simp), if_neg (by decide)]
    exact foundB_skip c (fun i hi => h i (by simp [hi]))
theorem restI_keep {w : Int} {k : ByteArray} {l : List Itm} (h : ∀ i ∈ l, hitI w k i = false) : restI w k l = l := by
  unfold restI
  rw [List.filter_eq_self]
  intro i hi
  rw [h i hi]; rfl
theorem fold_cnt (c : Cell) (v : Int) : 1 ≤ (fold c v).cnt := by
  by_cases h : c.cnt < 1
  · rw [fold_a v h]; exact Int.le_refl 1
  · rw [fold_ab v h]
    show 1 ≤ cnt2 c.cnt 1
    unfold cnt2
    split <;> omega
theorem atS_last {l : List Ver} {s : Int} (h : ∀ v ∈ l, v.st ≤ s) : atS l s = lastC l := by
  rcases List.eq_nil_or_concat l with rfl | ⟨l', v, rfl⟩
  · rfl
  · rw [List.concat_eq_append, atS_snoc, lastC_snoc, if_pos (h v (by simp))]
theorem writes_facts {l : List Ent} {x : Wri} {t : List Ent} (h : applyS l x = (t, 0)) :
    sright t = true ∧ sizeS t = sizeS l + 1 ∧ (∀ s, s < x.st → readS t s [] = readS l s []) ∧ ∀ s, x.st ≤ s → foundB x.win x.key (fold (wasC x.win x.key (readS l s [])) x.val) (readS t s []) = true ∧ restI x.win x.key (readS l s []) = restI x.win x.key (readS t s []) ∧ ∀ i ∈ readS t s [], hitI x.win x.key i = true → i.c = fold (wasC x.win x.key (readS l s [])) x.val := by
  rcases applyS_spec l x with h0 | ⟨hs, P, M, S, old, hl, h0, hM, hP, hS, hv⟩
  · rw [h0] at h; injection h with _ h2; exact absurd h2 (by decide)
  · rw [h0] at h
    injection h with h1 _
    subst h1
    have hnP : ∀ e ∈ P, hitE x.win x.key e = false := fun e he => plt_hit (Or.inl (hP e he))
    have hnS : ∀ e ∈ S, hitE x.win x.key e = false := fun e he => plt_hit (Or.inr (hS e he))
    obtain ⟨hin, hpw⟩ := sright_true.1 hs
    have hvs : (madeS x old).vs = old ++ [⟨x.st, fold (lastC old) x.val⟩] := rfl
    have hold : ∀ v ∈ old, v.st < x.st := by
      have := (vright_true.1 hv).2
      rw [hvs, List.pairwise_append] at this
      exact fun v hv => this.2.2 v hv ⟨x.st, fold (lastC old) x.val⟩ (by simp)
    refine ⟨?_, ?_, fun s hs1 => ?_, fun s hs1 => ?_⟩
    · rw [sright_true]
      refine ⟨fun e he => ?_, ?_⟩
      · rw [List.mem_append, List.mem_append, List.mem_singleton] at he
        rcases he with (he | rfl) | he
        · exact hin e (by rw [hl]; simp [he])
        · rw [eIn_true]; exact ⟨by rw [hvs]; simp, hv⟩
        · exact hin e (by rw [hl]; simp [he])
      · rw [hl, List.append_assoc, List.pairwise_append] at hpw
        have hMS := (List.pairwise_append.1 hpw.2.1).2.1
        rw [List.append_assoc, List.pairwise_append]
        refine ⟨hpw.1, ?_, fun a ha b hb => ?_⟩
        · rw [List.singleton_append, List.pairwise_cons]
          exact ⟨fun z hz => hS z hz, hMS⟩
        · rw [List.singleton_append, List.mem_cons] at hb
          rcases hb with rfl | hb
          · exact hP a ha
          · exact hpw.2.2 a ha b (by simp [hb])
    · rw [hl, sizeS_append, sizeS_append, sizeS_append, sizeS_append, sizeS_one, hvs, List.length_append]
      have : sizeS M = old.length := by
        rcases hM with ⟨rfl, rfl⟩ | ⟨e, rfl, _, _, rfl⟩
        · rfl
        · rw [sizeS_one]
      rw [this]
      simp only [List.length_singleton]
      omega
    · rw [hl, readS_append, readS_append, readS_append, readS_append]
      congr 2
      have hat : atS (madeS x old).vs s = atS old s := put_ahead hs1
      rcases hM with ⟨rfl, rfl⟩ | ⟨e, rfl, q1, q2, rfl⟩
      · rw [readS_nil, readS_one]
        have : takenE s [] (madeS x []) = false := by
          unfold takenE
          rw [hat, atS_nil]; rfl
        rw [this, if_neg (by decide)]
      · rw [readS_one, readS_one]
        have e1 : takenE s [] (madeS x e.vs) = takenE s [] e := by
          show (decide (1 ≤ (atS (madeS x e.vs).vs s).cnt) && !dropped [] x.win s) = (decide (1 ≤ (atS e.vs s).cnt) && !dropped [] e.win s)
          rw [hat, q1]
        have e2 : itemOf s (madeS x e.vs) = itemOf s e := by
          show (⟨x.win, x.key, atS (madeS x e.vs).vs s⟩ : Itm) = ⟨e.win, e.key, atS e.vs s⟩
          rw [hat, q1, q2]
        rw [e1, e2]
    · have hat : atS (madeS x old).vs s = fold (lastC old) x.val := put_from hs1
      have htk : takenE s [] (madeS x old) = true := by
        show (decide (1 ≤ (atS (madeS x old).vs s).cnt) && !dropped [] x.win s) = true
        rw [hat, decide_eq_true (fold_cnt _ _)]; rfl
      have hrd : readS [madeS x old] s [] = [(⟨x.win, x.key, fold (lastC old) x.val⟩ : Itm)] := by
        rw [readS_one, htk, if_pos rfl]
        show [(⟨x.win, x.key, atS (madeS x old).vs s⟩ : Itm)] = _
        rw [hat]
      have hhit : hitI x.win x.key ⟨x.win, x.key, fold (lastC old) x.val⟩ = true := by
        unfold hitI; rw [decide_eq_true rfl, eqB_self]; rfl
      have hmid : fold (wasC x.win x.key (readS l s [])) x.val = fold (lastC old) x.val ∧ restI x.win x.key (readS l s []) = readS P s [] ++ readS S s [] := by
        rw [hl, readS_append, readS_append]
        have nP := read_nohit hnP s
        have nS := read_nohit hnS s
        have hw : ∀ m : List Itm, wasC x.win x.key (readS P s [] ++ m ++ readS S s []) = m.foldl (fun c i => if hitI x.win x.key i = true then i.c else c) zero := by
          intro m
          unfold wasC
          rw [List.foldl_append, List.foldl_append, wasC_skip _ nP, wasC_skip _ nS]
        have hr : ∀ m : List Itm, (∀ i ∈ m, hitI x.win x.key i = true) → restI x.win x.key (readS P s [] ++ m ++ readS S s []) = readS P s [] ++ readS S s [] := by
          intro m hm
          unfold restI
          rw [List.filter_append, List.filter_append]
          have h1 := restI_keep nP
          have h2 := restI_keep nS
          unfold restI at h1 h2
          rw [h1, h2]
          have : m.filter (fun i => !hitI x.win x.key i) = [] := by
            rw [List.filter_eq_nil_iff]; intro i hi; rw [hm i hi]; decide
          rw [this, List.append_nil]
        rw [hw]
        rcases hM with ⟨rfl, rfl⟩ | ⟨e, rfl, q1, q2, rfl⟩
        · rw [readS_nil]
          exact ⟨rfl, hr [] (fun i hi => by simp at hi)⟩
        · have hae : atS e.vs s = lastC e.vs := atS_last (fun v hv => by have := hold v hv; omega)
          have hite : hitI x.win x.key (itemOf s e) = true := by
            rw [hitI_of]; exact hitE_true.2 ⟨q1, q2⟩
          rw [readS_one]
          cases ht : takenE s [] e
          · rw [if_neg (by decide)]
            have hc : (lastC e.vs).cnt < 1 := by
              have h5 : (decide (1 ≤ (atS e.vs s).cnt) && !dropped [] e.win s) = false := ht
              rw [dropped_nil, hae] at h5
              simp at h5
              omega
            refine ⟨?_, hr [] (fun i hi => by simp at hi)⟩
            rw [List.foldl_nil, fold_a x.val hc, fold_a x.val (show zero.cnt < 1 by decide)]
          · rw [if_pos rfl]
            refine ⟨?_, hr [itemOf s e] (fun i hi => by simp at hi; subst hi; exact hite)⟩
            rw [List.foldl_cons, List.foldl_nil, hite, if_pos rfl]
            show fold (atS e.vs s) x.val = _
            rw [hae]
      rw [hmid.1, hmid.2, readS_append, readS_append, hrd]
      have nP := read_nohit hnP s
      have nS := read_nohit hnS s
      refine ⟨?_, ?_, fun i hi hh => ?_⟩
      · unfold foundB
        rw [List.foldl_append, List.foldl_append, foundB_skip _ nP, foundB_skip _ nS, List.foldl_cons, List.foldl_nil, hhit, if_pos rfl]
        exact (eqC_true _ _).2 rfl
      · unfold restI
        rw [List.filter_append, List.filter_append]
        have h1 := restI_keep nP
        have h2 := restI_keep nS
        unfold restI at h1 h2
        rw [h1, h2]
        have : [(⟨x.win, x.key, fold (lastC old) x.val⟩ : Itm)].filter (fun i => !hitI x.win x.key i) = [] := by
          rw [List.filter_eq_nil_iff]; intro i hi; simp at hi; subst hi; rw [hhit]; decide
        rw [this, List.append_nil]
      · rw [List.mem_append, List.mem_append, List.mem_singleton] at hi
        rcases hi with (hi | rfl) | hi
        · rw [nP i hi] at hh; cases hh
        · rfl
        · rw [nS i hi] at hh; cases hh
theorem wasC_next {w : Int} {k : ByteArray} {l : List Itm} {n : Nat} (hn : n < l.length) : wasC w k (l.take (n + 1)) = if hitI w k l[n] = true then (l[n]).c else wasC w k (l.take n) := by
  rw [take_next hn]; unfold wasC; rw [List.foldl_append]; rfl
theorem foundB_next {w : Int} {k : ByteArray} {d : Cell} {l : List Itm} {n : Nat} (hn : n < l.length) : foundB w k d (l.take (n + 1)) = if hitI w k l[n] = true then eqC (l[n]).c d else foundB w k d (l.take n) := by
  rw [take_next hn]; unfold foundB; rw [List.foldl_append]; rfl
theorem restI_next {w : Int} {k : ByteArray} {l : List Itm} {n : Nat} (hn : n < l.length) : restI w k (l.take (n + 1)) = restI w k (l.take n) ++ if hitI w k l[n] = true then [] else [l[n]] := by
  rw [take_next hn]; unfold restI; rw [List.filter_append]
  cases h : hitI w k l[n] <;> simp [List.filter, h]
theorem restI_len (w : Int) (k : ByteArray) (l : List Itm) : (restI w k l).length ≤ l.length := List.length_filter_le _ _
theorem readS_ok {l : List Ent} (h : ∀ e ∈ l, ∀ y ∈ e.vs, okV y) (s : Int) (ds : List Drp) : ∀ i ∈ readS l s ds, okC i.c := by
  intro i hi
  unfold readS at hi
  obtain ⟨e, he, rfl⟩ := List.mem_map.1 hi
  exact atS_ok (h e (List.mem_filter.1 he).1) s
theorem wasC_ok {w : Int} {k : ByteArray} : ∀ {l : List Itm}, (∀ i ∈ l, okC i.c) → okC (wasC w k l) := by
  intro l h
  have : ∀ (m : List Itm) (c : Cell), (∀ i ∈ m, okC i.c) → okC c → okC (m.foldl (fun c i => if hitI w k i = true then i.c else c) c) := by
    intro m
    induction m with
    | nil => intro c _ hc; exact hc
    | cons a r ih =>
      intro c hm hc
      rw [List.foldl_cons]
      refine ih _ (fun i hi => hm i (by simp [hi])) ?_
      split
      · exact hm a (by simp)
      · exact hc
  exact this l zero h ok_zero
/-- What a write makes is as it may be. -/
theorem applyS_ok2 {l : List Ent} {x : Wri} (h : ∀ e ∈ l, ok64 e.win ∧ e.key.size ≤ 300 ∧ ∀ y ∈ e.vs, okV y) (hx : ok64 x.st ∧ ok64 x.win ∧ ok64 x.val ∧ x.key.size ≤ 300) : ∀ e ∈ (applyS l x).1, ok64 e.win ∧ e.key.size ≤ 300 ∧ ∀ y ∈ e.vs, okV y := by
  rcases applyS_spec l x with h0 | ⟨_, P, M, S, old, hl, h0, hM, _, _, _⟩
  · rw [h0]; exact fun e he => by simp at he
  · rw [h0]
    have hold : ∀ y ∈ old, okV y := by
      rcases hM with ⟨_, rfl⟩ | ⟨e, rfl, _, _, rfl⟩
      · intro y hy; simp at hy
      · exact (h e (by rw [hl]; simp)).2.2
    intro e he
    have he' : e ∈ P ++ [madeS x old] ++ S := he
    rw [List.mem_append, List.mem_append, List.mem_singleton] at he'
    rcases he' with (he' | rfl) | he'
    · exact h e (by rw [hl]; simp [he'])
    · refine ⟨hx.2.1, hx.2.2.2, fun y hy => ?_⟩
      have hy' : y ∈ old ++ [⟨x.st, fold (lastC old) x.val⟩] := hy
      rw [List.mem_append, List.mem_singleton] at hy'
      rcases hy' with hy' | rfl
      · exact hold y hy'
      · refine ⟨hx.1, ok_fold ?_ hx.2.2.1⟩
        rcases List.eq_nil_or_concat old with rfl | ⟨o', z, rfl⟩
        · exact ok_zero
        · rw [List.concat_eq_append, lastC_snoc]
          exact (hold z (by simp)).2
    · exact h e (by rw [hl]; simp [he'])
end Go.Proofs.Ythiofbohllmfbaa.Sh
