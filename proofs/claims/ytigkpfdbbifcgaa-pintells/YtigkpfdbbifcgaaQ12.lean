/- What is appended to a row of one's own may be nil, or any slice; a slice's two parts: plain laws, no program. -/
import Derived.Test.YtigkpfdbbifcgaaD0
import Derived.Test.YtigkpfdbbifcgaaH0
import Derived.Laws.AppendOwnNone
namespace Go.Proofs.Ytigkpfdbbifcgaa
open Go Go.RowKit

section
variable {P : Program} {w : World}
theorem run_append_nil (base : Nat) (t ty e : TypeId) (i : TypeInfo) (size : Nat) (ht : P.underlying t = some (.slice e)) (hi : P.info? e = some i) (v : Value) (n : Nat) (xs : List Value) (hown : w.ownsRow base e size v n xs) (c : Nat) :
    (Builtin.append_ #[t, t] ty #[v, .slice none 0 c]).run P w = .ok v w := by
  rcases hown.2 with ⟨rfl, rfl⟩ | ⟨g, cap, cur, rfl, _, _, hnc, _⟩
  · simp [Builtin.append_, run_underlying ht, sizeOf, typeInfo, hi, Builtin.lenOf, Builtin.firstCells]
  · simp [Builtin.append_, run_underlying ht, sizeOf, typeInfo, hi, Builtin.lenOf, Builtin.firstCells, hnc, storeCells]
theorem wpList_append_any {ops : Array Oper} {rest : List Oper} {o : Oper} {a : Act} {Q : Exit → Act → World → Prop} (hgd : o.guard = none) (s x : Operand) (t : TypeId)
    (ho : o.op = .call { callee := .builtin .append, args := #[s, x], argTypes := #[t, t] })
    (base : Nat) (e : TypeId) (i : TypeInfo) (z : Value) (size bytes : Nat) (ht : P.underlying t = some (.slice e)) (hi : P.info? e = some i) (hz : i.zero = some z)
    (hsize : i.size = size) (hby : i.bytes = bytes) (hzs : z.cells.size = size) (hsz : 0 < size)
    (v : Value) (n : Nat) (xs : List Value) (hs : a.eval s = v) (hown : w.ownsRow base e size v n xs)
    (ad : Option Addr) (m c : Nat) (news : List Value) (hx : a.eval x = .slice ad m c) (hl : news.length = m * size) (hnil : ad = none → m = 0) (hnews : ∀ p, ad = some p → ∀ j u, news[j]? = some u → w.cell? (p.add j) = some u) (h1 : ∀ u ∈ news, u.oneCell' = true)
    (h63 : n + m ≤ maxLen) (hbytes : (n + m) * bytes ≤ 140737488355328) (hbase : base ≤ w.heap.size)
    (h : ∀ v' w', w'.ownsRow base e size v' (n + m) (xs ++ news) → w.grownBy w' v.ownBlock → (v' = .slice none 0 0 ↔ v = .slice none 0 0 ∧ m = 0) → wpList P ops Q rest (a.put o.dst v') w') : wpList P ops Q (o :: rest) a w := by
  cases ad with
  | some p => exact wpList_append_own (w := w) (P := P) hgd s x t ho base e i z size bytes ht hi hz hsize hby hzs hsz v n xs hs hown p m c news hx hl (hnews p rfl) h1 h63 hbytes hbase h
  | none =>
    have hm := hnil rfl
    subst hm
    have hn : news = [] := by simpa using hl
    subst hn
    refine wpList_plain hgd fun K hK => ?_
    have hrun := run_append_nil (P := P) (w := w) base t o.type e i size ht hi v n xs hown c
    unfold Oper.wp
    simp [execOp, ho, resolve, invoke, builtin, hs, hx, hrun, Result.andThen]
    exact hK _ _ (h v w (by simpa using hown) (World.grownBy.refl _ _) (by simp))
end

section
variable {β : Type} {enc : β → List Value} {k : Nat}
theorem liesG_drop {w : World} {b o : Nat} {S : List β} (h : GLies enc k w b o S) (j : Nat) : GLies enc k w b (o + j * k) (S.drop j) := by
  intro i hi c u hu
  have hi' : j + i < S.length := by rw [List.length_drop] at hi; omega
  rw [List.getElem_drop] at hu
  have := h (j + i) hi' c u hu
  rw [Nat.add_mul, ← Nat.add_assoc] at this
  exact this
theorem gat_head {w : World} {a : Option Addr} {l : List β} (h : GAt enc k w a l) (n : Nat) : GAt enc k w a (l.take n) := by
  intro hne
  obtain ⟨b, o, ha, hb, hL⟩ := h (fun e => hne (by rw [e]; exact List.take_nil))
  refine ⟨b, o, ha, hb, fun i hi c u hu => ?_⟩
  have hi' : i < l.length := by rw [List.length_take] at hi; omega
  rw [List.getElem_take] at hu
  exact hL i hi' c u hu
theorem gat_tail {w : World} {a : Option Addr} {l : List β} {c : Nat} (h : GAt enc k w a l) (hc : l.length ≤ c) (n : Nat) : GAt enc k w (if c = n then a else a.map (·.add (n * k))) (l.drop n) := by
  intro hne
  have hk : n < l.length := by
    rcases Nat.lt_or_ge n l.length with h1 | h1
    · exact h1
    · exact absurd (List.drop_eq_nil_of_le h1) hne
  obtain ⟨b, o, ha, hb, hL⟩ := h (ne_of_lt hk)
  rw [if_neg (by omega), ha]
  refine ⟨b, o + n * k, ?_, hb, liesG_drop hL n⟩
  by_cases h0 : n * k = 0
  · rw [h0]; simp [Addr.add]
  · simp [Addr.add, h0]
/-- A slice's two parts. -/
theorem grow_head {w : World} {a : Option Addr} {l : List β} {c : Nat} (h : GRow enc k w (.slice a l.length c) l) (n : Nat) (hn : n ≤ l.length) : GRow enc k w (.slice a n c) (l.take n) := by
  obtain ⟨a', c', e, hc, hl⟩ := h
  injection e with e1 e2 e3
  subst e1; subst e3
  exact ⟨a, c, by rw [List.length_take, Nat.min_eq_left hn], by rw [List.length_take]; omega, gat_head hl n⟩
theorem grow_tail {w : World} {a : Option Addr} {l : List β} {c : Nat} (h : GRow enc k w (.slice a l.length c) l) (n : Nat) : GRow enc k w (.slice (if c = n then a else a.map (·.add (n * k))) (l.length - n) (c - n)) (l.drop n) := by
  obtain ⟨a', c', e, hc, hl⟩ := h
  injection e with e1 e2 e3
  subst e1; subst e3
  exact ⟨_, _, by rw [List.length_drop], by rw [List.length_drop]; omega, gat_tail hl hc n⟩
end

section
variable {β : Type} {enc : β → List Value} {k : Nat}
theorem gat_news (hk : ∀ x, (enc x).length = k) (h0 : 0 < k) {w : World} {a : Option Addr} {L : List β} (h : GAt enc k w a L) : ∀ p, a = some p → ∀ j u, (flatG enc L)[j]? = some u → w.cell? (p.add j) = some u := by
  rintro p rfl j u hu
  have hne : L ≠ [] := fun e => by subst e; simp [flatG] at hu
  obtain ⟨b, o, e, hb, hL⟩ := h hne
  injection e with e
  subst e
  rw [addr_add]
  exact hL.flat hk h0 j u hu
theorem gat_none {w : World} {a : Option Addr} {L : List β} (h : GAt enc k w a L) : a = none → L.length = 0 := by
  rintro rfl
  cases L with
  | nil => rfl
  | cons x s => obtain ⟨b, o, e, _⟩ := h (by simp); cases e
theorem own_more {w : World} {base T : Nat} {v : Value} {R A : List β} {n : Nat} (hn : A.length = n) (h : w.ownsRow base T k v (R.length + n) (flatG enc R ++ flatG enc A)) : w.ownsRow base T k v (R ++ A).length (flatG enc (R ++ A)) := by
  subst hn; rw [List.length_append, flatG_append]; exact h
theorem own_grew {w W w' : World} {base T : Nat} {v : Value} {n : Nat} {xs : List Value} (hd : Below base w W) (hb : base ≤ W.heap.size) (h : W.ownsRow base T k v n xs) (hg : W.grownBy w' v.ownBlock) : Below base w w' := hd.grown hg hb (fun k hk => (h.lt k hk).1)
end

end Go.Proofs.Ytigkpfdbbifcgaa
