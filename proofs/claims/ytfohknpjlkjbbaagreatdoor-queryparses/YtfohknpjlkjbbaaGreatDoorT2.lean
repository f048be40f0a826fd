/- Helpers for slices of one's own (texts), appends in drawn regions, parts of a text: carried over from earlier texts. -/
import Derived.Test.YtfohknpjlkjbbaaGreatDoorP3
import Derived.Test.YtfohknpjlkjbbaaGreatDoorW6
import Derived.OwnWalk
import Derived.Deep.AppendLies
namespace Go.Proofs.YtfohknpjlkjbbaaGreatDoor
open Go Go.RowKit Tg Pk

theorem set_take {α : Type} (xs : List α) (k : Nat) (u : α) (h : k < xs.length) : (xs.set k u).take (k + 1) = xs.take k ++ [u] := by
  have hl : k < (xs.set k u).length := by simpa using h
  rw [List.take_succ_eq_append_getElem hl, List.getElem_set_self, List.take_set_of_le (Nat.le_refl k)]
theorem step_append_own {P : Program} {ops : Array Oper} {o : Oper} {a : Act} {K : Act → World → Prop} {Q : Exit → Act → World → Prop} {E : Prop} (w : World) (hgd : o.guard = none) (s x : Operand) (t : TypeId)
    (ho : o.op = .call { callee := .builtin .append, args := #[s, x], argTypes := #[t, t] })
    (base : Nat) (e : TypeId) (i : TypeInfo) (z : Value) (size bytes : Nat) (ht : P.underlying t = some (.slice e)) (hi : P.info? e = some i) (hz : i.zero = some z)
    (hsize : i.size = size) (hby : i.bytes = bytes) (hzs : z.cells.size = size) (hsz : 0 < size)
    (v : Value) (n : Nat) (xs : List Value) (hs : a.eval s = v) (hown : w.ownsRow base e size v n xs)
    (ad : Addr) (m c : Nat) (news : List Value) (hx : a.eval x = .slice (some ad) m c) (hl : news.length = m * size) (hnews : ∀ j u, news[j]? = some u → w.cell? (ad.add j) = some u) (h1 : ∀ u ∈ news, u.oneCell' = true)
    (h63 : n + m ≤ maxLen) (hbytes : (n + m) * bytes ≤ 140737488355328) (hbase : base ≤ w.heap.size)
    (h : ∀ v' w', w'.ownsRow base e size v' (n + m) (xs ++ news) → w.grownBy w' v.ownBlock → (v' = .slice none 0 0 ↔ v = .slice none 0 0 ∧ m = 0) → K (a.put o.dst v') w') :
    if Region.wanted o (yielded ops a.tmps) = true then Oper.wp P o a w K Q else E := by
  have hw : Region.wanted o (yielded ops a.tmps) = true := by simp [Region.wanted, hgd]
  rw [if_pos hw]
  exact wp_append_own w s x t ho base e i z size bytes ht hi hz hsize hby hzs hsz v n xs hs hown ad m c news hx hl hnews h1 h63 hbytes hbase h
theorem parts_small (c : UInt8) : ∀ (l : List UInt8) (p : List UInt8), p ∈ Word.parts c l → p.length ≤ l.length
  | [], p, h => by
    rw [Word.parts] at h
    simp at h
    subst h
    exact Nat.le_refl _
  | b :: l, p, h => by
    have ih := parts_small c l
    by_cases hb : b = c
    · subst hb
      rw [Word.parts_hit] at h
      rcases List.mem_cons.1 h with rfl | h
      · simp
      · have := ih p h
        simp
        omega
    · rw [Word.parts_miss _ _ _ hb] at h
      cases hp : Word.parts c l with
      | nil => exact absurd hp (Word.parts_ne c l)
      | cons q r =>
        rw [hp] at h ih
        rw [Word.onto] at h
        rcases List.mem_cons.1 h with rfl | h
        · have := ih q (by simp)
          simp
          omega
        · have := ih p (by simp [h])
          simp
          omega
theorem parts_many (c : UInt8) : ∀ l : List UInt8, (Word.parts c l).length ≤ l.length + 1
  | [] => by rw [Word.parts]; simp
  | b :: l => by
    have ih := parts_many c l
    by_cases hb : b = c
    · subst hb
      rw [Word.parts_hit]
      simp
      omega
    · rw [Word.parts_miss _ _ _ hb]
      cases hp : Word.parts c l with
      | nil => exact absurd hp (Word.parts_ne c l)
      | cons q r =>
        rw [hp] at ih
        rw [Word.onto]
        simp at ih ⊢
        omega
theorem parts_get {s : ByteArray} {k : Nat} (hk : k < (partsB 44 s).length) (hk2 : k < (Word.parts 44 s.data.toList).length) : (partsB 44 s)[k] = ba (Word.parts 44 s.data.toList)[k] := by
  have h : (partsB 44 s)[k]? = some (ba (Word.parts 44 s.data.toList)[k]) := by
    unfold partsB
    rw [List.getElem?_map, List.getElem?_eq_getElem hk2]
    rfl
  rw [List.getElem?_eq_getElem hk] at h
  exact Option.some.inj h
theorem partsB_len (c : UInt8) (s : ByteArray) : (partsB c s).length = (Word.parts c s.data.toList).length := by unfold partsB; simp
theorem joined_parts (s : ByteArray) (c : UInt8) : joinB ⟨#[c]⟩ (partsB c s) = s := by
  unfold joinB partsB
  rw [map_ba]
  show ba (Lib.join (Word.parts c s.data.toList) [c]) = s
  rw [Word.join_parts, ba_eq]
theorem partsB_pos (c : UInt8) (s : ByteArray) : 0 < (partsB c s).length := by
  rw [partsB_len]
  cases h : Word.parts c s.data.toList with
  | nil => exact absurd h (Word.parts_ne _ _)
  | cons a r => simp
theorem row_heap {w w' : World} {v : Value} {l : List ByteArray} (h : Row w v l) (hh : w'.heap = w.heap) : Row w' v l := by
  obtain ⟨a, c, hv, hc, hl⟩ := h
  refine ⟨a, c, hv, hc, fun hne => ?_⟩
  obtain ⟨b, o, ha, hb, hL⟩ := hl hne
  refine ⟨b, o, ha, by rw [hh]; exact hb, ?_⟩
  intro j x hx
  rw [show w'.cell? ⟨b, o + j, none⟩ = w.cell? ⟨b, o + j, none⟩ from by unfold World.cell?; rw [hh]]
  exact hL j x hx
/-- A slice of one's own that holds texts: where it lies. -/
theorem own_text {w : World} {base : Nat} {v : Value} {l : List ByteArray} (h : Own w base v l) (hne : l ≠ []) : ∃ b c, v = .slice (some ⟨b, 0, none⟩) l.length c ∧ l.length ≤ c ∧ base ≤ b ∧ b < w.heap.size ∧ Lies w b 0 l := by
  obtain ⟨a, c, hv, hc, hl⟩ := own_row h
  obtain ⟨b, o, ha, hb, hL⟩ := hl hne
  subst ha
  have hlt := h.lt b (by rw [hv]; rfl)
  rcases h.2 with ⟨h0, _⟩ | ⟨g, cap, cur, hv2, _⟩
  · rw [h0] at hv; cases hv
  · rw [hv2] at hv
    cases hv
    exact ⟨b, _, hv2, hc, hlt.1, hb, hL⟩
theorem own_on {w w1 : World} {base : Nat} {e : TypeId} {size : Nat} {v : Value} {n : Nat} {xs : List Value} (h : w.ownsRow base e size v n xs) (d : Below w.heap.size w w1) : w1.ownsRow base e size v n xs := by
  refine ⟨h.1, ?_⟩
  rcases h.2 with h0 | ⟨g, cap, cur, hv, hb, hg, hc, hm, hs, ht⟩
  · exact .inl h0
  · refine .inr ⟨g, cap, cur, hv, hb, ?_, hc, hm, hs, ht⟩
    have hlt : g < w.heap.size := by
      rcases Nat.lt_or_ge g w.heap.size with hlt | hge
      · exact hlt
      · rw [Array.getElem?_eq_none hge] at hg; cases hg
    rw [d.block g hlt]
    exact hg
theorem lens_le (M : Nat) : ∀ r : List (List UInt8), (∀ x ∈ r, x.length ≤ M) → Lib.lens r ≤ r.length * M
  | [], _ => by simp [Lib.lens]
  | y :: r, h => by
    have ih := lens_le M r (fun x hx => h x (by simp [hx]))
    have h1 := h y (by simp)
    have e : Lib.lens (y :: r) = y.length + Lib.lens r := by simp [Lib.lens]
    rw [e, List.length_cons, Nat.add_mul]
    omega
end Go.Proofs.YtfohknpjlkjbbaaGreatDoor
