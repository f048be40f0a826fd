/- Carried over from earlier layers: walks and lemmas of tags, series and matches. -/
import Derived.Test.YtfohknpjlkjbbaaGreatDoorT2
import Derived.Shelf.SlSortCmp.QuietGrown
namespace Go.Proofs.YtfohknpjlkjbbaaGreatDoor
open Go Go.RowKit Go.Sort Tg
theorem below_grow (W : World) (q : Nat) (os : Array Obj) : Below W.heap.size W (grow (W.drewN q) os) := by
  refine ⟨rfl, rfl, rfl, ?_, ?_⟩
  · show W.heap.size ≤ (W.heap ++ os).size
    simp
  · intro b hb
    show (W.heap ++ os)[b]? = W.heap[b]?
    rw [Array.getElem?_append_left hb]
theorem mixed : Tryz.prog.follows .mixedOrders = true := by kernel_rfl
theorem all_next {l : List Tag} {k : Nat} (hk : k < l.length) (h : (l.take k).all may = true) : (l.take (k + 1)).all may = may l[k] := by
  rw [List.take_succ_eq_append_getElem hk, List.all_append, h]
  simp
theorem all_not {l : List Tag} {k : Nat} (hk : k < l.length) (h : may l[k] = false) : l.all may = false := by
  cases ha : l.all may
  · rfl
  · rw [List.all_eq_true.1 ha _ (List.getElem_mem hk)] at h
    cases h
set_option maxHeartbeats 400000 in
theorem may_any (x : Tag) (W : World) (h1 : x.1.size ≤ 281474976710656) (h2 : x.2.size ≤ 281474976710656) :
    Calls Tryz.prog 97 #[.agg #[.string x.1, .string x.2]] W fun e w' => e = .returned (.bool (may x)) ∧ ∃ q os', w' = grow (W.drewN q) os' := by
  have H1 := fun W => refName_any x.1 W (by omega)
  have H2 := fun W => refValue_any x.2 W (by omega)
  rw [show may x = (Word.name x.1.data.toList && Word.value x.2.data.toList) from rfl]
  generalize Word.name x.1.data.toList = p at *
  generalize Word.value x.2.data.toList = q at *
  have H1 := Lib.hid H1
  have H2 := Lib.hid H2
  cases p
  · go_enter Tryz.func97, Tryz.ntmps97
    go_wp2_with (first
      | (go_at_call 28; refine (H1.out _).mono ?_; rintro e w' ⟨rfl, rfl⟩))
    go_ret
    exact ⟨rfl, 0, _, by rw [alloc_eq_grow]; rfl⟩
  · go_enter Tryz.func97, Tryz.ntmps97
    go_wp2_with (first
      | (go_at_call 28; refine (H1.out _).mono ?_; rintro e w' ⟨rfl, rfl⟩)
      | (go_at_call 82; refine (H2.out _).mono ?_; rintro e w' ⟨rfl, rfl⟩))
    go_ret
    exact ⟨by simp, 0, _, by rw [alloc_eq_grow]; rfl⟩
def hasB (ns : List ByteArray) (x : ByteArray) : Bool := ns.any fun n => eqB n x
set_option maxHeartbeats 400000 in
theorem has_any (v : Value) (ns : List ByteArray) (x : ByteArray) (w : World) (h : Row w v ns) (hn : ns.length ≤ 1000000) :
    Calls Tryz.prog 78 #[v, .string x] w fun e w' => e = .returned (.bool (hasB ns x)) ∧ w' = w := by
  obtain ⟨a, c, rfl, hc, hl⟩ := h
  have HL := Lib.hid hl
  clear hl
  obtain ⟨A, HA⟩ : ∃ A, Hid (hasB ns x = A) := ⟨_, rfl⟩
  rw [HA.out]
  go_enter Tryz.func78, Tryz.ntmps78
  go_wp2
  go_loop [5] (fun i => ∃ (k : Nat), k ≤ ns.length ∧ i = .int .i64 k ∧ Hid (hasB (ns.take k) x = false)) (fun i => ns.length - (intOf i).toNat)
  case atStart => exact ⟨0, Nat.zero_le _, rfl, rfl⟩
  case round =>
    obtain ⟨k, hk, rfl, HT⟩ := hrel
    by_cases hlt : k < ns.length
    · obtain ⟨b, o, rfl, hb, hL⟩ := HL.out (ne_of_lt hlt)
      have e1 := hL.at k hlt
      have i1 : (k : Int) < (ns.length : Int) := by omega
      have i2 : (0 : Int) ≤ (k : Int) := by omega
      have HN : Hid (eqB ns[k] x = false → hasB (ns.take (k + 1)) x = false) := fun h => by
        show _ = false
        rw [List.take_succ_eq_append_getElem hlt]
        unfold hasB
        rw [List.any_append, show ((ns.take k).any fun n => eqB n x) = false from HT.out]
        simp [h]
      have HF : Hid (eqB ns[k] x = true → A = true) := fun h => by
        show A = true
        rw [← HA.out]
        exact List.any_eq_true.2 ⟨_, List.getElem_mem hlt, h⟩
      have HQ := Lib.hid (beq_ba ns[k] x)
      generalize ns[k] = y at *
      clear hL hb HL HT
      cases hq : eqB y x
      · have hq' := HQ.out.trans hq
        have HN2 := Lib.hid (HN.out hq)
        clear hq HF HN
        go_wp2_with fail
        exact ⟨⟨k + 1, by omega, by go_num, HN2⟩, by simp [intOf]; omega⟩
      · have hq' := HQ.out.trans hq
        have HF2 := Lib.hid (HF.out hq)
        clear hq HF HN
        go_wp2_with fail
        go_ret
        exact ⟨ret_bool (HF2.out).symm, rfl⟩
    · have HE : Hid (A = false) := by
        have h1 := HT.out
        rw [List.take_of_length_le (by omega)] at h1
        show A = false
        rw [← HA.out]
        exact h1
      go_wp2_with fail
      go_ret
      exact ⟨ret_bool (HE.out).symm, rfl⟩
theorem contains_has (ns : List ByteArray) (x : ByteArray) : Lib.containsS ns x = hasB ns x := by
  rw [Bool.eq_iff_iff, Lib.containsS_iff]
  unfold hasB
  rw [List.any_eq_true]
  constructor
  · intro h; exact ⟨x, h, (eqB_true x x).2 rfl⟩
  · rintro ⟨y, hy, he⟩
    rw [(eqB_true y x).1 he] at hy
    exact hy
theorem contains_any (v : Value) (ns : List ByteArray) (x : ByteArray) (w : World) (h : Row w v ns) (hn : ns.length ≤ 1000000) :
    Calls Tryz.prog 77 #[v, .string x] w fun e w' => e = .returned (.bool (hasB ns x)) ∧ w' = w := by
  obtain ⟨a, c, rfl, hc, hl⟩ := h
  rcases List.eq_nil_or_concat ns with hnil | ⟨l0, x0, hcons⟩
  · subst hnil
    exact Tryz.slices_Contains_string_empty a c x w
  · have hne : ns ≠ [] := by rw [hcons]; simp
    obtain ⟨b, o, rfl, hb, hL⟩ := hl hne
    have hcon := Tryz.slices_Contains_string b o ns.length c ns x w (Nat.le_refl _) (by omega) (fun j hj => by
      rw [hL.at j hj]
      simp [List.getD, List.getElem?_eq_getElem hj])
    rw [List.take_of_length_le (Nat.le_refl _), contains_has] at hcon
    exact hcon
/-- The tags' cells, one behind the other. -/
def flat (l : List Tag) : List Value := l.flatMap fun x => [.string x.1, .string x.2]
theorem flat_len (l : List Tag) : (flat l).length = l.length * 2 := by
  induction l with
  | nil => rfl
  | cons x r ih => simp only [flat, List.flatMap_cons, List.length_append] at ih ⊢; rw [ih]; simp; omega
theorem flat_at (l : List Tag) : ∀ (i : Nat) (h : i < l.length), (flat l)[i * 2]? = some (.string (l[i]).1) ∧ (flat l)[i * 2 + 1]? = some (.string (l[i]).2) := by
  induction l with
  | nil => intro i h; cases h
  | cons x r ih =>
    intro i h
    cases i with
    | zero => exact ⟨rfl, rfl⟩
    | succ i =>
      have h' : i < r.length := by simpa using h
      obtain ⟨h1, h2⟩ := ih i h'
      have e : flat (x :: r) = .string x.1 :: .string x.2 :: flat r := rfl
      rw [e]
      constructor
      · rw [show (i + 1) * 2 = i * 2 + 1 + 1 from by omega]
        simp only [List.getElem?_cons_succ, List.getElem_cons_succ]
        exact h1
      · rw [show (i + 1) * 2 + 1 = i * 2 + 1 + 1 + 1 from by omega]
        simp only [List.getElem?_cons_succ, List.getElem_cons_succ]
        exact h2
theorem flat_one (l : List Tag) : ∀ u ∈ flat l, u.oneCell' = true := by
  intro u hu
  simp only [flat, List.mem_flatMap] at hu
  obtain ⟨x, _, hx⟩ := hu
  simp at hx
  rcases hx with rfl | rfl <;> rfl
theorem flat_cells {w : World} {b o : Nat} {l : List Tag} (hL : TLies w b o l) : ∀ j u, (flat l)[j]? = some u → w.cell? ⟨b, o + j, none⟩ = some u := by
  intro j u hu
  have hj : j < l.length * 2 := by rw [← flat_len]; exact (List.getElem?_eq_some_iff.1 hu).1
  have hi : j / 2 < l.length := by omega
  obtain ⟨f1, f2⟩ := flat_at l (j / 2) hi
  obtain ⟨c1, c2⟩ := hL (j / 2) hi
  rcases Nat.mod_two_eq_zero_or_one j with h | h
  · rw [show j / 2 * 2 = j from by omega] at f1 c1
    rw [c1, ← f1, hu]
  · rw [show j / 2 * 2 + 1 = j from by omega] at f2
    rw [show o + j / 2 * 2 + 1 = o + j from by omega] at c2
    rw [c2, ← f2, hu]
theorem flat_append (l m : List Tag) : flat (l ++ m) = flat l ++ flat m := by simp [flat]
abbrev OwnT (w : World) (base : Nat) (v : Value) (l : List Tag) : Prop := w.ownsRow base 63 2 v l.length (flat l)
theorem ownT_row {w : World} {base : Nat} {v : Value} {l : List Tag} (h : OwnT w base v l) : TRow w v l := by
  rcases h.2 with ⟨h0, h1⟩ | ⟨g, cap, cur, hv, hb, hg, hc, _, hcur, ht⟩
  · have hl : l = [] := List.length_eq_zero_iff.1 h1
    subst hl
    exact ⟨none, 0, h0, Nat.le_refl _, fun hne => absurd rfl hne⟩
  · refine ⟨_, cap, hv, hc, fun _ => ⟨g, 0, rfl, ?_, ?_⟩⟩
    · rcases Nat.lt_or_ge g w.heap.size with hlt | hge
      · exact hlt
      · rw [Array.getElem?_eq_none hge] at hg; cases hg
    · intro i hi
      obtain ⟨f1, f2⟩ := flat_at l i hi
      have hcell : ∀ j, w.cell? ⟨g, j, none⟩ = cur[j]? := fun j => cell_of_row w g j cur 63 (0, 0) hg
      rw [← ht, List.getElem?_take] at f1 f2
      rw [hcell, hcell]
      rw [if_pos (by omega)] at f1 f2
      simp only [Array.getElem?_toList] at f1 f2
      rw [Nat.zero_add]
      exact ⟨f1, f2⟩
set_option maxRecDepth 100000 in
set_option maxRecDepth 100000 in
theorem info41 : ∃ i, Tryz.prog.info? 63 = some i ∧ i.zero = some (.agg #[.string ⟨#[]⟩, .string ⟨#[]⟩]) ∧ i.size = 2 ∧ i.bytes = 32 := ⟨_, rfl, rfl, rfl, rfl⟩
theorem new1T (w : World) (x : Tag) : ∀ j u, [Value.string x.1, Value.string x.2][j]? = some u → (w.alloc (.cells #[.string x.1, .string x.2] 63)).cell? ((⟨w.heap.size, 0, none⟩ : Addr).add j) = some u := by
  intro j u h
  match j, h with
  | 0, h => simp at h; subst h; simp [Addr.add]
  | 1, h => simp at h; subst h; simp [Addr.add]
  | j + 2, h => simp at h
theorem one1T (x : Tag) : ∀ u ∈ [Value.string x.1, Value.string x.2], u.oneCell' = true := by
  intro u hu
  simp at hu
  rcases hu with rfl | rfl <;> rfl
theorem ownT_next {w' : World} {base : Nat} {v' : Value} {l : List Tag} {x : Tag} (h : w'.ownsRow base 63 2 v' (l.length + 1) (flat l ++ [Value.string x.1, Value.string x.2])) : OwnT w' base v' (l ++ [x]) := by
  show w'.ownsRow base 63 2 v' (l ++ [x]).length (flat (l ++ [x]))
  rw [flat_append]
  simpa [flat] using h
/-- What an append of one tag leaves. -/
theorem ownT_below {w W w' : World} {base : Nat} {v : Value} {l : List Tag} {o : Obj} (hd : Below base w W) (hb : base ≤ W.heap.size) (h : OwnT W base v l) (hg : (W.alloc o).grownBy w' v.ownBlock) : Below base w w' :=
  (hd.alloc hb _).grown hg (by simp; omega) (fun k hk => (h.lt k hk).1)
theorem ownT_nil (w : World) (base : Nat) : OwnT w base (.slice none 0 0) [] := World.ownsRow_nil _ _ _ _
end Go.Proofs.YtfohknpjlkjbbaaGreatDoor
