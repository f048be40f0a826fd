/- Walks: the document's Right; whether a text is among some; rows of tags of one's own. -/
import Derived.Test.YtfjbbaejeckonaaDoorT2
import Derived.Test.YtfjbbaejeckonaaDoorW6
namespace Go.Proofs.YtfjbbaejeckonaaDoor
open Go Go.RowKit Go.Sort Tg

set_option maxHeartbeats 2000000 in
theorem refRight_any (v : Value) (l : List Tag) (w : World) (h : TRow w v l) (hn : l.length ≤ 1000000) (hs : ∀ x ∈ l, x.1.size ≤ 281474976710656 ∧ x.2.size ≤ 281474976710656) :
    Calls Tryd.prog 26 #[v] w fun e w' => e = .returned (.bool (right l)) ∧ Below w.heap.size w w' := by
  obtain ⟨a, c, rfl, hc, hl⟩ := h
  have HL := Lib.hid hl
  have HS := Lib.hid hs
  clear hl hs
  obtain ⟨A, HA⟩ : ∃ A, Hid (right l = A) := ⟨_, rfl⟩
  rw [HA.out]
  go_enter Tryd.func26, Tryd.ntmps26
  go_wp2
  go_loopw [3] (fun i wr => ∃ (k : Nat), k ≤ l.length ∧ i = .int .i64 k ∧ Hid ((l.take k).all may = true) ∧ Hid (rising (l.take k) = true) ∧ Below w.heap.size w wr) (fun i _ => l.length - (intOf i).toNat)
  case atStart => exact ⟨0, Nat.zero_le _, rfl, rfl, rising_nil, Below.refl _ _⟩
  case round =>
    obtain ⟨k, hk, rfl, HT, HT2, hbl⟩ := hrel
    by_cases hlt : k < l.length
    · obtain ⟨b, o, rfl, hb, hL⟩ := HL.out (ne_of_lt hlt)
      have hb' : b < wr.heap.size := Nat.lt_of_lt_of_le hb hbl.size
      have hL' := hL.on hb hbl
      obtain ⟨e3, e4⟩ := hL' k hlt
      have f3 := fun n os => cell_grown (a := ⟨b, o + k * 2, none⟩) hb' e3 n os
      have f4 := fun n os => cell_grown (a := ⟨b, o + k * 2 + 1, none⟩) hb' e4 n os
      have i1 : (k : Int) < (l.length : Int) := by omega
      have i2 : (0 : Int) ≤ (k : Int) := by omega
      have mx := mixed
      obtain ⟨z1, z2⟩ := HS.out _ (List.getElem_mem hlt)
      have HF : Hid (may l[k] = false → A = false) := fun h => by
        show A = false
        rw [← HA.out]
        unfold right
        rw [all_not hlt h]
        rfl
      have HB := Lib.hid (fun W => may_any l[k] W z1 z2)
      have HN : Hid (may l[k] = true → (l.take (k + 1)).all may = true) := fun h => by rw [all_next hlt HT.out]; exact h
      rcases Nat.eq_zero_or_pos k with hk0 | hk0
      · have HR : Hid (rising (l.take (k + 1)) = true) := by
          show _ = _
          subst hk0
          cases l with
          | nil => exact rising_nil
          | cons x r => exact rising_one x
        have i3 : decide ((0 : Int) < (k : Int)) = false := decide_eq_false (by omega)
        have i3n : decide (0 < k) = false := decide_eq_false (by omega)
        generalize l[k] = y at *
        clear e3 e4 hL hL' HL HS HT HT2 hk0
        cases hm : may y
        · rw [hm] at HB
          have HF2 := Lib.hid (HF.out hm)
          go_wp2_with fail
          refine wp_region_quiet_grown (by assumption) (by kernel_rfl) ?_
          repeat (first | go_big_quiet_skip | (go_big_quiet_want; go_big_quiet_op; first | go_big_quiet_on | go_big_quiet_call (first | (go_at_call 46; refine Calls.grown_of (HB.out _)))))
          refine wpQuiet_nil ?_
          intro _ hw'
          obtain ⟨⟨nq, osq⟩, hw''⟩ := hw'
          subst hw''
          go_wp2_with fail
          go_ret
          exact ⟨ret_bool (HF2.out).symm, hbl.trans ((below_grow wr nq osq).mono hbl.size)⟩
        · rw [hm] at HB
          have HN2 := Lib.hid (HN.out hm)
          go_wp2_with fail
          refine wp_region_quiet_grown (by assumption) (by kernel_rfl) ?_
          repeat (first | go_big_quiet_skip | (go_big_quiet_want; go_big_quiet_op; first | go_big_quiet_on | go_big_quiet_call (first | (go_at_call 46; refine Calls.grown_of (HB.out _)))))
          refine wpQuiet_nil ?_
          intro _ hw'
          obtain ⟨⟨nq, osq⟩, hw''⟩ := hw'
          subst hw''
          go_wp2_with fail
          exact ⟨⟨k + 1, by omega, by go_num, HN2, HR, hbl.trans ((below_grow wr nq osq).mono hbl.size)⟩, by simp [intOf]; omega⟩
      · obtain ⟨j, hj⟩ : ∃ j, j = k - 1 := ⟨_, rfl⟩
        have hjl : j < l.length := by omega
        have hjk : (k : Int) - 1 = (j : Int) := by omega
        obtain ⟨e1, e2⟩ := hL' j hjl
        have f1 := fun n os => cell_grown (a := ⟨b, o + j * 2, none⟩) hb' e1 n os
        have i3 : (j : Int) < (l.length : Int) := by omega
        have i5 : (0 : Int) ≤ (j : Int) := by omega
        have i6 : (0 : Int) < (k : Int) := by omega
        have i4 : IntKind.i64.wrap (j : Int) = (j : Int) := by rw [IntKind.wrap_i64]; omega
        have HR := Lib.hid (rising_take l k (by omega) hlt)
        have ej : l[k - 1] = l[j] := by subst hj; rfl
        rw [ej] at HR
        have HQ : Hid (Op.bytesLess (l[j]).1.toList (l[k]).1.toList = lt l[j] l[k]) := by
          show _ = _
          rw [ByteArray.toList_eq, ByteArray.toList_eq]; rfl
        have HX : Hid (lt l[j] l[k] = false → A = false) := fun h => by
          show A = false
          rw [← HA.out]
          unfold right
          rw [show rising l = false from rising_of_take (k := k + 1) (by rw [HR.out, HT2.out, h]; rfl)]
          simp
        clear ej
        generalize l[j] = x at *
        generalize l[k] = y at *
        clear e1 e2 e3 e4 hL hL' HL HS HT hj
        cases hm : may y
        · rw [hm] at HB
          have HF2 := Lib.hid (HF.out hm)
          go_wp2_with fail
          refine wp_region_quiet_grown (by assumption) (by kernel_rfl) ?_
          repeat (first | go_big_quiet_skip | (go_big_quiet_want; go_big_quiet_op; first | go_big_quiet_on | go_big_quiet_call (first | (go_at_call 46; refine Calls.grown_of (HB.out _)))))
          refine wpQuiet_nil ?_
          intro _ hw'
          obtain ⟨⟨nq, osq⟩, hw''⟩ := hw'
          subst hw''
          go_wp2_with fail
          go_ret
          exact ⟨ret_bool (HF2.out).symm, hbl.trans ((below_grow wr nq osq).mono hbl.size)⟩
        · rw [hm] at HB
          have HN2 := Lib.hid (HN.out hm)
          cases hq : lt x y
          · have hq' := HQ.out.trans hq
            have HX2 := Lib.hid (HX.out hq)
            clear hq HX HF HN HR
            go_wp2_with fail
            refine wp_region_quiet_grown (by assumption) (by kernel_rfl) ?_
            repeat (first | go_big_quiet_skip | (go_big_quiet_want; go_big_quiet_op; first | go_big_quiet_on | go_big_quiet_call (first | (go_at_call 46; refine Calls.grown_of (HB.out _)))))
            refine wpQuiet_nil ?_
            intro _ hw'
            obtain ⟨⟨nq, osq⟩, hw''⟩ := hw'
            subst hw''
            go_wp2_with fail
            go_ret
            exact ⟨ret_bool (HX2.out).symm, hbl.trans ((below_grow wr nq osq).mono hbl.size)⟩
          · have hq' := HQ.out.trans hq
            have HR2 : Hid (rising (l.take (k + 1)) = true) := by show _ = _; rw [HR.out, HT2.out, hq]; rfl
            clear hq HX HF HN HR HT2
            go_wp2_with fail
            refine wp_region_quiet_grown (by assumption) (by kernel_rfl) ?_
            repeat (first | go_big_quiet_skip | (go_big_quiet_want; go_big_quiet_op; first | go_big_quiet_on | go_big_quiet_call (first | (go_at_call 46; refine Calls.grown_of (HB.out _)))))
            refine wpQuiet_nil ?_
            intro _ hw'
            obtain ⟨⟨nq, osq⟩, hw''⟩ := hw'
            subst hw''
            go_wp2_with fail
            exact ⟨⟨k + 1, by omega, by go_num, HN2, HR2, hbl.trans ((below_grow wr nq osq).mono hbl.size)⟩, by simp [intOf]; omega⟩
    · have HE : Hid (A = decide (l.length ≤ 4)) := by
        have h1 := HT.out
        have h2 := HT2.out
        rw [List.take_of_length_le (by omega)] at h1 h2
        show A = _
        rw [← HA.out]
        unfold right
        rw [h1, h2]
        simp
      by_cases h4 : l.length ≤ 4
      · go_wp2_with fail
        go_ret
        exact ⟨ret_bool (by rw [HE.out]; first | (simp; omega) | simp [h4]), hbl⟩
      · go_wp2_with fail
        go_ret
        exact ⟨ret_bool (by rw [HE.out]; first | (simp; omega) | simp [h4]), hbl⟩

def hasB (ns : List ByteArray) (x : ByteArray) : Bool := ns.any fun n => eqB n x

theorem contains_has (ns : List ByteArray) (x : ByteArray) : Lib.containsS ns x = hasB ns x := by
  rw [Bool.eq_iff_iff, Lib.containsS_iff]
  unfold hasB
  rw [List.any_eq_true]
  constructor
  · intro h; exact ⟨x, h, (eqB_true x x).2 rfl⟩
  · rintro ⟨y, hy, he⟩
    rw [(eqB_true y x).1 he] at hy
    exact hy
/-- The tags' cells, one behind the other. -/
def flat (l : List Tag) : List Value := l.flatMap fun x => [.string x.1, .string x.2]
theorem flat_len (l : List Tag) : (flat l).length = l.length * 2 := by
  induction l with
  | nil => rfl
  | cons x r ih => simp only [flat, List.flatMap_cons, List.length_append] at ih ⊢; rw [ih]; simp; omega
theorem flat_at (l : List Tag) : ∀ (i : Nat) (h : i < l.length), (flat l)[i * 2]? = some (.string (l[i]).1) ∧ (flat l)[i * 2 + 1]? = some (.string (l[i]).2) := by
  induction l with
  | nil => intro i h; cases h
  | cons x r ih =>
    intro i h
    cases i with
    | zero => exact ⟨rfl, rfl⟩
    | succ i =>
      have h' : i < r.length := by simpa using h
      obtain ⟨h1, h2⟩ := ih i h'
      have e : flat (x :: r) = .string x.1 :: .string x.2 :: flat r := rfl
      rw [e]
      constructor
      · rw [show (i + 1) * 2 = i * 2 + 1 + 1 from by omega]
        simp only [List.getElem?_cons_succ, List.getElem_cons_succ]
        exact h1
      · rw [show (i + 1) * 2 + 1 = i * 2 + 1 + 1 + 1 from by omega]
        simp only [List.getElem?_cons_succ, List.getElem_cons_succ]
        exact h2
theorem flat_one (l : List Tag) : ∀ u ∈ flat l, u.oneCell' = true := by
  intro u hu
  simp only [flat, List.mem_flatMap] at hu
  obtain ⟨x, _, hx⟩ := hu
  simp at hx
  rcases hx with rfl | rfl <;> rfl
theorem flat_cells {w : World} {b o : Nat} {l : List Tag} (hL : TLies w b o l) : ∀ j u, (flat l)[j]? = some u → w.cell? ⟨b, o + j, none⟩ = some u := by
  intro j u hu
  have hj : j < l.length * 2 := by rw [← flat_len]; exact (List.getElem?_eq_some_iff.1 hu).1
  have hi : j / 2 < l.length := by omega
  obtain ⟨f1, f2⟩ := flat_at l (j / 2) hi
  obtain ⟨c1, c2⟩ := hL (j / 2) hi
  rcases Nat.mod_two_eq_zero_or_one j with h | h
  · rw [show j / 2 * 2 = j from by omega] at f1 c1
    rw [c1, ← f1, hu]
  · rw [show j / 2 * 2 + 1 = j from by omega] at f2
    rw [show o + j / 2 * 2 + 1 = o + j from by omega] at c2
    rw [c2, ← f2, hu]
theorem flat_append (l m : List Tag) : flat (l ++ m) = flat l ++ flat m := by simp [flat]
abbrev OwnT (w : World) (base : Nat) (v : Value) (l : List Tag) : Prop := w.ownsRow base 40 2 v l.length (flat l)
theorem ownT_row {w : World} {base : Nat} {v : Value} {l : List Tag} (h : OwnT w base v l) : TRow w v l := by
  rcases h.2 with ⟨h0, h1⟩ | ⟨g, cap, cur, hv, hb, hg, hc, _, hcur, ht⟩
  · have hl : l = [] := List.length_eq_zero_iff.1 h1
    subst hl
    exact ⟨none, 0, h0, Nat.le_refl _, fun hne => absurd rfl hne⟩
  · refine ⟨_, cap, hv, hc, fun _ => ⟨g, 0, rfl, ?_, ?_⟩⟩
    · rcases Nat.lt_or_ge g w.heap.size with hlt | hge
      · exact hlt
      · rw [Array.getElem?_eq_none hge] at hg; cases hg
    · intro i hi
      obtain ⟨f1, f2⟩ := flat_at l i hi
      have hcell : ∀ j, w.cell? ⟨g, j, none⟩ = cur[j]? := fun j => cell_of_row w g j cur 40 (0, 0) hg
      rw [← ht, List.getElem?_take] at f1 f2
      rw [hcell, hcell]
      rw [if_pos (by omega)] at f1 f2
      simp only [Array.getElem?_toList] at f1 f2
      rw [Nat.zero_add]
      exact ⟨f1, f2⟩
set_option maxRecDepth 100000 in
theorem info41 : ∃ i, Tryd.prog.info? 40 = some i ∧ i.zero = some (.agg #[.string ⟨#[]⟩, .string ⟨#[]⟩]) ∧ i.size = 2 ∧ i.bytes = 32 := ⟨_, rfl, rfl, rfl, rfl⟩
theorem new1T (w : World) (x : Tag) : ∀ j u, [Value.string x.1, Value.string x.2][j]? = some u → (w.alloc (.cells #[.string x.1, .string x.2] 40)).cell? ((⟨w.heap.size, 0, none⟩ : Addr).add j) = some u := by
  intro j u h
  match j, h with
  | 0, h => simp at h; subst h; simp [Addr.add]
  | 1, h => simp at h; subst h; simp [Addr.add]
  | j + 2, h => simp at h
theorem one1T (x : Tag) : ∀ u ∈ [Value.string x.1, Value.string x.2], u.oneCell' = true := by
  intro u hu
  simp at hu
  rcases hu with rfl | rfl <;> rfl
theorem ownT_next {w' : World} {base : Nat} {v' : Value} {l : List Tag} {x : Tag} (h : w'.ownsRow base 40 2 v' (l.length + 1) (flat l ++ [Value.string x.1, Value.string x.2])) : OwnT w' base v' (l ++ [x]) := by
  show w'.ownsRow base 40 2 v' (l ++ [x]).length (flat (l ++ [x]))
  rw [flat_append]
  simpa [flat] using h
/-- What an append of one tag leaves. -/
theorem ownT_below {w W w' : World} {base : Nat} {v : Value} {l : List Tag} {o : Obj} (hd : Below base w W) (hb : base ≤ W.heap.size) (h : OwnT W base v l) (hg : (W.alloc o).grownBy w' v.ownBlock) : Below base w w' :=
  (hd.alloc hb _).grown hg (by simp; omega) (fun k hk => (h.lt k hk).1)
theorem ownT_nil (w : World) (base : Nat) : OwnT w base (.slice none 0 0) [] := World.ownsRow_nil _ _ _ _
end Go.Proofs.YtfjbbaejeckonaaDoor
