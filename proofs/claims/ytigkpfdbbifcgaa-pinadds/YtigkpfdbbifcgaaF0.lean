/- A row of structs with one put in between: what stands behind 'rest := append([]T{}, l[at:]...)' and behind 'append(append(l[:at], x), rest...)', whatever their cells. -/
import Derived.Test.YtigkpfdbbifcgaaQ12
import Derived.Lib.BufferOwn
namespace Go.Proofs.Ytigkpfdbbifcgaa
open Go Go.RowKit Go.Sort Go.Lib

section
variable {β : Type} {enc : β → List Value} {k : Nat}

theorem ownG_cut (hk : ∀ x, (enc x).length = k) {w : World} {base T g cap : Nat} {S : List β} (h : w.ownsRow base T k (.slice (some ⟨g, 0, none⟩) S.length cap) S.length (flatG enc S)) (j : Nat) (hj : j ≤ S.length) : w.ownsRow base T k (.slice (some ⟨g, 0, none⟩) j cap) j (flatG enc (S.take j)) := by
  obtain ⟨h1, h2⟩ := h
  have hl : (S.take j).length = j := by rw [List.length_take]; omega
  refine ⟨by rw [flatG_len hk, hl], .inr ?_⟩
  rcases h2 with ⟨h0, _⟩ | ⟨g', cap', cur, hv, hb, hg, hc, hm, hs, ht⟩
  · cases h0
  · cases hv
    refine ⟨g, cap, cur, rfl, hb, hg, by omega, hm, hs, ?_⟩
    have e : flatG enc S = flatG enc (S.take j) ++ flatG enc (S.drop j) := by rw [← flatG_append, List.take_append_drop]
    have hm2 : j * k ≤ S.length * k := Nat.mul_le_mul_right k hj
    have e2 : cur.toList.take (j * k) = (cur.toList.take (S.length * k)).take (j * k) := by
      rw [List.take_take]
      congr 1
      omega
    rw [e2, ht, e, List.take_append_of_le_length (by rw [flatG_len hk, hl]; exact Nat.le_refl _), List.take_of_length_le (by rw [flatG_len hk, hl]; exact Nat.le_refl _)]
theorem dropG_news (hk : ∀ x, (enc x).length = k) (h0 : 0 < k) {wr : World} {g : Nat} {S : List β} (h : GLies enc k wr g 0 S) (hg : g < wr.heap.size) (j q : Nat) (o : Obj) : ∀ i u, (flatG enc (S.drop j))[i]? = some u → ((wr.drewN q).alloc o).cell? ((⟨g, j * k, none⟩ : Addr).add i) = some u := by
  intro i u hu
  have h2 := liesG_drop h j
  rw [Nat.zero_add] at h2
  rw [addr_add, World.cell?_alloc_lt _ _ _ (show (⟨g, j * k + i, none⟩ : Addr).block < (wr.drewN q).heap.size from hg)]
  exact h2.flat hk h0 i u hu
/-- What stands behind 'rest := append([]T{}, l[at:]...)'. -/
theorem after17G (hk : ∀ x, (enc x).length = k) {wr w8 : World} {v8 : Value} {base T g cap j q : Nat} {S : List β} (HO : wr.ownsRow base T k (.slice (some ⟨g, 0, none⟩) S.length cap) S.length (flatG enc S)) (hg2 : g < wr.heap.size)
    (hown : w8.ownsRow wr.heap.size T k v8 (0 + (S.length - j)) ([] ++ flatG enc (S.drop j))) (hgrow : ((wr.drewN q).alloc (Obj.cells #[] T)).grownBy w8 (some wr.heap.size)) (hnil : v8 ≠ .slice none 0 0) :
    ∃ h cap8, v8 = .slice (some ⟨h, 0, none⟩) (S.length - j) cap8 ∧ wr.heap.size ≤ h ∧ h < w8.heap.size ∧ GLies enc k w8 h 0 (S.drop j) ∧ w8.ownsRow base T k (.slice (some ⟨g, 0, none⟩) S.length cap) S.length (flatG enc S) ∧
      Below wr.heap.size wr w8 := by
  rw [Nat.zero_add, List.nil_append] at hown
  have d8 : Below wr.heap.size wr w8 := ((below_drewN (Below.refl _ _) q).alloc (Nat.le_refl _) _).grown hgrow (by simp) (fun k hk => by cases hk; exact Nat.le_refl _)
  obtain ⟨h, cap8, hv, hh1, hh2⟩ : ∃ h cap8, v8 = .slice (some ⟨h, 0, none⟩) (S.length - j) cap8 ∧ wr.heap.size ≤ h ∧ h < w8.heap.size := by
    rcases hown.2 with ⟨h0, _⟩ | ⟨h, cap8, cur, hv, hb, hg, _⟩
    · exact absurd h0 hnil
    · refine ⟨h, cap8, hv, hb, ?_⟩
      rcases Nat.lt_or_ge h w8.heap.size with hlt | hge
      · exact hlt
      · rw [Array.getElem?_eq_none hge] at hg; cases hg
  subst hv
  refine ⟨h, cap8, rfl, hh1, hh2, (ownG_cells hk (by rw [List.length_drop]) hown).1, ?_, d8⟩
  have hO : ((wr.drewN q).alloc (Obj.cells #[] T)).ownsRow base T k (.slice (some ⟨g, 0, none⟩) S.length cap) S.length (flatG enc S) := World.ownsRow.alloc (w := wr.drewN q) HO _
  exact hO.kept hgrow (Or.inr (by simp [Value.ownBlock]; omega))
theorem after17eG {wr : World} {base T g cap : Nat} {S : List β} (HO : wr.ownsRow base T k (.slice (some ⟨g, 0, none⟩) S.length cap) S.length (flatG enc S)) (q : Nat) :
    ((wr.drewN q).alloc (Obj.cells #[] T)).ownsRow base T k (.slice (some ⟨g, 0, none⟩) S.length cap) S.length (flatG enc S) ∧ Below wr.heap.size wr ((wr.drewN q).alloc (Obj.cells #[] T)) :=
  ⟨World.ownsRow.alloc (w := wr.drewN q) HO _, (below_drewN (Below.refl _ _) q).alloc (Nat.le_refl _) _⟩
theorem newsG_far (hk : ∀ x, (enc x).length = k) (h0 : 0 < k) {w8 w1 : World} {h : Nat} {R : List β} {o : Obj} {row : Option Nat} (hL : GLies enc k w8 h 0 R) (hh : h < w8.heap.size) (hg : (w8.alloc o).drew.grownBy w1 row) (hne : some h ≠ row) : ∀ i u, (flatG enc R)[i]? = some u → w1.cell? ((⟨h, 0, none⟩ : Addr).add i) = some u := by
  intro i u hu
  rw [addr_add, hg.cell_far _ (by simp; omega) hne]
  show (w8.alloc o).cell? _ = _
  rw [World.cell?_alloc_lt _ _ _ (show (⟨h, 0 + i, none⟩ : Addr).block < w8.heap.size from hh)]
  exact hL.flat hk h0 i u hu
/-- What stands behind 'append(append(l[:at], x), rest...)'. -/
theorem after18G {w w8 w1 w1' w2 : World} {v0 v1 v2 : Value} {o : Obj} {base T j : Nat} {S : List β} {x : β} (hj : j ≤ S.length) (hb : base ≤ w8.heap.size) (d8 : Below base w w8) (h0 : ∀ k, v0.ownBlock = some k → base ≤ k)
    (hown1 : w1.ownsRow base T k v1 (j + 1) (flatG enc (S.take j) ++ enc x)) (hgrow1 : (w8.alloc o).drew.grownBy w1 v0.ownBlock)
    (hown2 : w2.ownsRow base T k v2 (j + 1 + (S.length - j)) (flatG enc (S.take j) ++ enc x ++ flatG enc (S.drop j))) (hgrow2 : w1'.grownBy w2 v1.ownBlock) (hh : w1'.heap = w1.heap) (ho : w1'.os = w1.os) (ht : w1'.tape = w1.tape) (hu : w1'.output = w1.output) :
    w2.ownsRow base T k v2 (S.take j ++ x :: S.drop j).length (flatG enc (S.take j ++ x :: S.drop j)) ∧ Below base w w2 := by
  refine ⟨?_, ?_⟩
  · have e1 : flatG enc (S.take j ++ x :: S.drop j) = flatG enc (S.take j) ++ enc x ++ flatG enc (S.drop j) := by
      rw [flatG_append, List.append_assoc]
      congr 1
    have e2 : (S.take j ++ x :: S.drop j).length = j + 1 + (S.length - j) := by
      rw [List.length_append, List.length_cons, List.length_take, List.length_drop]; omega
    rw [e1, e2]
    exact hown2
  · have d1 : Below base w w1 := ((d8.alloc hb _).drew).grown hgrow1 (by simp; omega) h0
    have hs1 : base ≤ w1.heap.size := by
      have := hgrow1.size
      simp at this
      omega
    have d1' : Below base w w1' := ⟨ho.trans d1.os, ht.trans d1.tape, hu.trans d1.output, by rw [hh]; exact d1.size, fun b hb => by rw [hh]; exact d1.block b hb⟩
    exact d1'.grown hgrow2 (by rw [hh]; exact hs1) (fun k hk => (hown1.lt k hk).1)
theorem ownG_block {w : World} {base T : Nat} {v : Value} {n : Nat} {xs : List Value} (h : w.ownsRow base T k v n xs) (hn : 0 < n) : ∃ g cap, v = .slice (some ⟨g, 0, none⟩) n cap ∧ base ≤ g ∧ g < w.heap.size ∧ n ≤ cap := by
  rcases h.2 with ⟨_, hz⟩ | ⟨g, cap, cur, hv, hb, hg, hc, _⟩
  · omega
  · refine ⟨g, cap, hv, hb, ?_, hc⟩
    rcases Nat.lt_or_ge g w.heap.size with hlt | hge
    · exact hlt
    · rw [Array.getElem?_eq_none hge] at hg; cases hg
end

end Go.Proofs.Ytigkpfdbbifcgaa
