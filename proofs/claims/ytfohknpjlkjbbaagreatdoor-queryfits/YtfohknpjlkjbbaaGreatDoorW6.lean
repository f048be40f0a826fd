/- Walks: the document's Split and Fields. -/
import Derived.Test.YtfohknpjlkjbbaaGreatDoorW5
namespace Go.Proofs.YtfohknpjlkjbbaaGreatDoor
open Go Go.RowKit

abbrev Own (w : World) (base : Nat) (v : Value) (l : List ByteArray) : Prop := w.ownsRow base 9 1 v l.length (l.map Value.string)
theorem addr_add (b o j : Nat) : (⟨b, o, none⟩ : Addr).add j = ⟨b, o + j, none⟩ := by simp [Addr.add]
theorem own_row {w : World} {base : Nat} {v : Value} {l : List ByteArray} (h : Own w base v l) : Row w v l := by
  rcases h.2 with ⟨h0, h1⟩ | ⟨g, cap, cur, hv, hb, hg, hc, _, _, _⟩
  · have hl : l = [] := List.length_eq_zero_iff.1 h1
    subst hl
    exact ⟨none, 0, h0, Nat.le_refl _, fun hne => absurd rfl hne⟩
  · refine ⟨_, cap, hv, hc, fun _ => ⟨g, 0, rfl, ?_, ?_⟩⟩
    · rcases Nat.lt_or_ge g w.heap.size with hlt | hge
      · exact hlt
      · rw [Array.getElem?_eq_none hge] at hg; cases hg
    · intro j x hx
      have := h.cells (g := g) (by rw [hv]; rfl) j (.string x) (by simp [hx])
      rw [addr_add] at this
      exact this
set_option maxRecDepth 100000 in
theorem info9 : ∃ i, Tryz.prog.info? 9 = some i ∧ i.zero = some (.string ⟨#[]⟩) ∧ i.size = 1 ∧ i.bytes = 16 := ⟨_, rfl, rfl, rfl, rfl⟩
theorem new1 (w : World) (x : ByteArray) : ∀ j u, [Value.string x][j]? = some u → (w.alloc (.cells #[.string x] 9)).cell? ((⟨w.heap.size, 0, none⟩ : Addr).add j) = some u := by
  intro j u h
  match j, h with
  | 0, h => simp at h; subst h; simp [Addr.add]
  | j + 1, h => simp at h
theorem one1 (x : ByteArray) : ∀ u ∈ [Value.string x], u.oneCell' = true := by
  intro u hu
  simp at hu
  subst hu
  rfl
theorem own_next {w' : World} {base : Nat} {v' : Value} {l : List ByteArray} {x : ByteArray} (h : w'.ownsRow base 9 1 v' (l.length + 1) (l.map Value.string ++ [Value.string x])) : Own w' base v' (l ++ [x]) := by
  show w'.ownsRow base 9 1 v' (l ++ [x]).length ((l ++ [x]).map Value.string)
  simpa using h
/-- What an append of one text leaves. -/
theorem own_below {w W w' : World} {base : Nat} {v : Value} {l : List ByteArray} {x : ByteArray} (hd : Below base w W) (hb : base ≤ W.heap.size) (h : Own W base v l) (hg : (W.alloc (.cells #[.string x] 9)).grownBy w' v.ownBlock) : Below base w w' :=
  (hd.alloc hb _).grown hg (by simp; omega) (fun k hk => (h.lt k hk).1)

theorem ext_list (s : ByteArray) (f k : Nat) : (s.extract f k).data.toList = (s.data.toList.drop f).take (k - f) := by
  rw [ByteArray.data_extract, Array.toList_extract, List.extract_eq_take_drop]
theorem ext_nil (s : ByteArray) (k : Nat) : (s.extract k k).data.toList = [] := by rw [ext_list]; simp
theorem ext_on (s : ByteArray) (f k : Nat) (hf : f ≤ k) (hk : k < s.size) : (s.extract f (k + 1)).data.toList = (s.extract f k).data.toList ++ [s[k]] := by
  rw [ext_list, ext_list, show k + 1 - f = (k - f) + 1 from by omega, List.take_add_one]
  congr 1
  have hk' : k < s.data.toList.length := by rw [← size_list]; exact hk
  rw [List.getElem?_drop, show f + (k - f) = k from by omega, List.getElem?_eq_getElem hk']
  rfl
theorem drop_on (s : ByteArray) (k : Nat) (hk : k < s.size) : s.data.toList.drop k = s[k] :: s.data.toList.drop (k + 1) := by
  have hk' : k < s.data.toList.length := by rw [← size_list]; exact hk
  rw [List.drop_eq_getElem_cons hk']
  rfl

/-- How far the document's Split has come: the parts done, and what is still ahead. -/
def Split (c : UInt8) (s : ByteArray) (f k : Nat) (done : List ByteArray) : Prop :=
  done.map (·.data.toList) ++ Word.onto (s.extract f k).data.toList (Word.parts c (s.data.toList.drop k)) = Word.parts c s.data.toList
theorem split_start (c : UInt8) (s : ByteArray) : Split c s 0 0 [] := by
  unfold Split
  rw [ext_nil, List.drop_zero, Word.onto_nil _ (Word.parts_ne _ _)]
  rfl
theorem split_hit {c : UInt8} {s : ByteArray} {f k : Nat} {done : List ByteArray} (h : Split c s f k done) (hk : k < s.size) (hc : s[k] = c) : Split c s (k + 1) (k + 1) (done ++ [s.extract f k]) := by
  unfold Split at h ⊢
  rw [drop_on s k hk, hc, Word.on_hit] at h
  rw [ext_nil, ← h]
  simp
theorem split_miss {c : UInt8} {s : ByteArray} {f k : Nat} {done : List ByteArray} (h : Split c s f k done) (hf : f ≤ k) (hk : k < s.size) (hc : s[k] ≠ c) : Split c s f (k + 1) done := by
  unfold Split at h ⊢
  rw [drop_on s k hk, Word.on_miss _ _ _ _ hc] at h
  rw [ext_on s f k hf hk]
  exact h
theorem split_end {c : UInt8} {s : ByteArray} {f k : Nat} {done : List ByteArray} (h : Split c s f k done) (hk : k = s.size) : done ++ [s.extract f s.size] = partsB c s := by
  subst hk
  unfold Split at h
  rw [List.drop_of_length_le (by rw [← size_list]; exact Nat.le_refl _), Word.parts] at h
  rw [partsB, ← h, List.map_append, ba_map]
  rw [Word.onto, List.append_nil, List.map_cons, List.map_nil, ba_eq]
theorem byte_ne {a b : UInt8} (h : a ≠ b) : ((a.toNat : Int) == (b.toNat : Int)) = false := by
  simp only [beq_eq_false_iff_ne, ne_eq]
  intro e
  exact h (UInt8.toNat_inj.1 (by omega))

set_option maxHeartbeats 1000000 in
theorem refSplit_any (s : ByteArray) (c : UInt8) (w : World) (hs : s.size ≤ 1000000) :
    Calls Tryz.prog 46 #[.string s, .int .u8 (c.toNat : Int)] w fun e w' => (∃ v, e = .returned v ∧ Row w' v (partsB c s)) ∧ Below w.heap.size w w' := by
  obtain ⟨i0, hi, hz0, hz1, hz2⟩ := info9
  have HI := Lib.hid (And.intro hi (And.intro hz0 (And.intro hz1 hz2)))
  clear hi hz0 hz1 hz2
  go_enter Tryz.func46, Tryz.ntmps46
  go_wp2
  go_loopw [5, 6, 7] (fun out fr i wr => ∃ (k f : Nat) (done : List ByteArray), f ≤ k ∧ k ≤ s.size ∧ done.length ≤ k ∧ fr = .int .i64 f ∧ i = .int .i64 k ∧ Hid (Own wr w.heap.size out done) ∧ Hid (Split c s f k done) ∧ Below w.heap.size w wr) (fun _ _ i _ => s.size - (intOf i).toNat)
  case atStart => exact ⟨0, 0, [], Nat.le_refl _, Nat.zero_le _, Nat.le_refl _, rfl, rfl, World.ownsRow_nil _ _ _ _, split_start c s, Below.refl _ _⟩
  case round =>
    obtain ⟨k, f, done, hf, hk, hdn, rfl, rfl, HO, HS, hb⟩ := hrel
    by_cases hlt : k < s.size
    · by_cases hc : s[k] = c
      · have hq : (((s[k]).toNat : Int) == (c.toNat : Int)) = true := by rw [hc]; simp
        have HS2 := Lib.hid (split_hit HS.out hlt hc)
        have hbz := hb.size
        clear HS hc
        go_wp2_with (first | (at_builtin; refine wpList_append_own _ rfl _ _ 23 rfl w.heap.size 9 i0 (.string ⟨#[]⟩) 1 16 Tryz.underlying23 HI.out.1 HI.out.2.1 HI.out.2.2.1 HI.out.2.2.2 rfl (by decide) _ _ _ rfl (HO.out.alloc _) ⟨wr.heap.size, 0, none⟩ 1 1 [Value.string (s.extract f k)] rfl rfl (new1 wr _) (one1 _) (by unfold maxLen; omega) (by omega) (by simp; omega) ?_; intro v' w2 hown hgrow hnil))
        have HO2 := Lib.hid (own_next hown)
        have hb2 := own_below hb hbz HO.out hgrow
        clear hown hgrow hnil HO hb
        go_wp2_with fail
        exact ⟨⟨k + 1, k + 1, _, by omega, by omega, by simp; omega, by go_num, by go_num, HO2, HS2, hb2⟩, by simp [intOf]; omega⟩
      · have hq := byte_ne hc
        have HS2 := Lib.hid (split_miss HS.out hf hlt hc)
        clear HS hc
        go_wp2_with fail
        exact ⟨⟨k + 1, f, done, by omega, by omega, by omega, rfl, by go_num, HO, HS2, hb⟩, by simp [intOf]; omega⟩
    · have HE := Lib.hid (split_end HS.out (by omega))
      have hbz := hb.size
      clear HS
      go_wp2_with (first | (at_builtin; refine wpList_append_own _ rfl _ _ 23 rfl w.heap.size 9 i0 (.string ⟨#[]⟩) 1 16 Tryz.underlying23 HI.out.1 HI.out.2.1 HI.out.2.2.1 HI.out.2.2.2 rfl (by decide) _ _ _ rfl (HO.out.alloc _) ⟨wr.heap.size, 0, none⟩ 1 1 [Value.string (s.extract f s.size)] rfl rfl (new1 wr _) (one1 _) (by unfold maxLen; omega) (by omega) (by simp; omega) ?_; intro v' w2 hown hgrow hnil))
      have hr := own_row (own_next hown)
      have hb2 := own_below hb hbz HO.out hgrow
      rw [HE.out] at hr
      clear hown hgrow hnil HO hb HE
      go_wp2_with fail
      go_ret
      exact ⟨⟨_, rfl, hr⟩, hb2⟩

def keptB (l : List ByteArray) : List ByteArray := l.filter fun x => !emptyB x
theorem kept_take (l : List ByteArray) (k : Nat) (hk : k < l.length) : keptB (l.take (k + 1)) = if emptyB l[k] = true then keptB (l.take k) else keptB (l.take k) ++ [l[k]] := by
  rw [keptB, List.take_succ_eq_append_getElem hk, List.filter_append]
  cases h : emptyB l[k] <;> simp [keptB, h]
theorem kept_len (l : List ByteArray) (k : Nat) : (keptB (l.take k)).length ≤ l.length := by
  have h1 : (keptB (l.take k)).length ≤ (l.take k).length := List.length_filter_le _ _
  have h2 : (l.take k).length ≤ l.length := List.length_take_le' _ _
  omega
theorem empty_eq {x : ByteArray} (h : emptyB x = true) : x = ⟨#[]⟩ := by
  apply ByteArray.ext
  have : x.data.toList = [] := by simpa [emptyB] using h
  simpa using this

set_option maxHeartbeats 1000000 in
theorem refFields_any (s : ByteArray) (w : World) (hs : s.size ≤ 1000000) :
    Calls Tryz.prog 42 #[.string s] w fun e w' => (∃ v, e = .returned v ∧ Row w' v (fieldsB s)) ∧ Below w.heap.size w w' := by
  obtain ⟨i0, hi, hz0, hz1, hz2⟩ := info9
  have HI := Lib.hid (And.intro hi (And.intro hz0 (And.intro hz1 hz2)))
  clear hi hz0 hz1 hz2
  have hple := parts_le 32 s
  have hpne : partsB 32 s ≠ [] := by
    intro e
    have := count_parts 32 s
    rw [e] at this
    simp at this
  have HF := Lib.hid (kept_fields s)
  go_enter Tryz.func42, Tryz.ntmps42
  go_wp2_with (go_at_call 46; refine (refSplit_any s 32 w hs).mono ?_; rintro e w1 ⟨⟨v1, rfl, hr⟩, d1⟩)
  obtain ⟨a1, c1, rfl, hc1, hl1⟩ := hr
  obtain ⟨b, o, rfl, hb1, hL⟩ := hl1 hpne
  clear hl1 hpne
  have HL := Lib.hid hL
  clear hL
  generalize partsB 32 s = l at *
  go_wp2_with fail
  go_loopw [3, 5] (fun out i wr => ∃ (k : Nat), k ≤ l.length ∧ i = .int .i64 k ∧ Hid (Own wr w1.heap.size out (keptB (l.take k))) ∧ Below w1.heap.size w1 wr) (fun _ i _ => l.length - (intOf i).toNat)
  case atStart => exact ⟨0, Nat.zero_le _, rfl, World.ownsRow_nil _ _ _ _, Below.refl _ _⟩
  case round =>
    obtain ⟨k, hk, rfl, HO, hb⟩ := hrel
    by_cases hlt : k < l.length
    · have e1 := (HL.out.on hb1 hb).at k hlt
      have i1 : (k : Int) < (l.length : Int) := by omega
      have i2 : (0 : Int) ≤ (k : Int) := by omega
      have hbz := hb.size
      have hkl := kept_len l k
      have HK := Lib.hid (kept_take l k hlt)
      cases hx : emptyB l[k]
      · have HK := Lib.hid HK.out
        rw [hx, if_neg (by simp)] at HK
        have hne : (l[k]).toList.isEmpty = false := by rw [ByteArray.toList_eq]; exact hx
        generalize l[k] = x at *
        go_wp2_with (first | (at_builtin; refine wpList_append_own _ rfl _ _ 23 rfl w1.heap.size 9 i0 (.string ⟨#[]⟩) 1 16 Tryz.underlying23 HI.out.1 HI.out.2.1 HI.out.2.2.1 HI.out.2.2.2 rfl (by decide) _ _ _ rfl (HO.out.alloc _) ⟨wr.heap.size, 0, none⟩ 1 1 [Value.string x] rfl rfl (new1 wr _) (one1 _) (by unfold maxLen; omega) (by omega) (by simp; omega) ?_; intro v' w2 hown hgrow hnil))
        have HO2 := Lib.hid (own_next hown)
        have hb2 := own_below hb hbz HO.out hgrow
        exact ⟨⟨k + 1, by omega, by go_num, by rw [HK.out]; exact HO2, hb2⟩, by simp [intOf]; omega⟩
      · have HK := Lib.hid HK.out
        rw [hx, if_pos rfl] at HK
        have hxe := empty_eq hx
        rw [hxe] at e1
        go_wp2_with fail
        exact ⟨⟨k + 1, by omega, by go_num, by rw [HK.out]; exact HO, hb⟩, by simp [intOf]; omega⟩
    · have hr := own_row HO.out
      rw [List.take_of_length_le (by omega), show keptB l = fieldsB s from HF.out] at hr
      have d2 := d1.trans (hb.mono d1.size)
      clear HO HL
      go_wp2_with fail
      go_ret
      exact ⟨⟨_, rfl, hr⟩, d2⟩
end Go.Proofs.YtfohknpjlkjbbaaGreatDoor
