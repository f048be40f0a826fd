/- A row of structs with one put in between: what stands behind 'rest := append([]T{}, l[at:]...)' and behind 'append(append(l[:at], x), rest...)', whatever their cells. The document's sort by keys: a walk. The document's into: a cell into its part, in order: a walk. The document's Answer: a walk. -/
import Derived.Test.YtidkpalckafgkaaGreatDoorA3
import Derived.Test.YtidkpalckafgkaaGreatDoorD1
import Derived.Test.YtidkpalckafgkaaGreatDoorE5
import Derived.Test.YtidkpalckafgkaaGreatDoorE2
import Derived.Deep.RegionLaw
import Derived.Test.YtidkpalckafgkaaGreatDoorE6
import Derived.Test.YtidkpalckafgkaaGreatDoorC6
import Derived.Test.YtidkpalckafgkaaGreatDoorE9
namespace Go.Proofs.YtidkpalckafgkaaGreatDoor
open Go Go.RowKit Go.Sort Go.Lib

section
variable {β : Type} {enc : β → List Value} {k : Nat}

theorem ownG_cut (hk : ∀ x, (enc x).length = k) {w : World} {base T g cap : Nat} {S : List β} (h : w.ownsRow base T k (.slice (some ⟨g, 0, none⟩) S.length cap) S.length (flatG enc S)) (j : Nat) (hj : j ≤ S.length) : w.ownsRow base T k (.slice (some ⟨g, 0, none⟩) j cap) j (flatG enc (S.take j)) := by
  obtain ⟨h1, h2⟩ := h
  have hl : (S.take j).length = j := by rw [List.length_take]; omega
  refine ⟨by rw [flatG_len hk, hl], .inr ?_⟩
  rcases h2 with ⟨h0, _⟩ | ⟨g', cap', cur, hv, hb, hg, hc, hm, hs, ht⟩
  · cases h0
  · cases hv
    refine ⟨g, cap, cur, rfl, hb, hg, by omega, hm, hs, ?_⟩
    have e : flatG enc S = flatG enc (S.take j) ++ flatG enc (S.drop j) := by rw [← flatG_append, List.take_append_drop]
    have hm2 : j * k ≤ S.length * k := Nat.mul_le_mul_right k hj
    have e2 : cur.toList.take (j * k) = (cur.toList.take (S.length * k)).take (j * k) := by
      rw [List.take_take]
      congr 1
      omega
    rw [e2, ht, e, List.take_append_of_le_length (by rw [flatG_len hk, hl]; exact Nat.le_refl _), List.take_of_length_le (by rw [flatG_len hk, hl]; exact Nat.le_refl _)]
theorem liesG_drop {w : World} {b o : Nat} {S : List β} (h : GLies enc k w b o S) (j : Nat) : GLies enc k w b (o + j * k) (S.drop j) := by
  intro i hi c u hu
  have hi' : j + i < S.length := by rw [List.length_drop] at hi; omega
  rw [List.getElem_drop] at hu
  have := h (j + i) hi' c u hu
  rw [Nat.add_mul, ← Nat.add_assoc] at this
  exact this
theorem dropG_news (hk : ∀ x, (enc x).length = k) (h0 : 0 < k) {wr : World} {g : Nat} {S : List β} (h : GLies enc k wr g 0 S) (hg : g < wr.heap.size) (j q : Nat) (o : Obj) : ∀ i u, (flatG enc (S.drop j))[i]? = some u → ((wr.drewN q).alloc o).cell? ((⟨g, j * k, none⟩ : Addr).add i) = some u := by
  intro i u hu
  have h2 := liesG_drop h j
  rw [Nat.zero_add] at h2
  rw [addr_add, World.cell?_alloc_lt _ _ _ (show (⟨g, j * k + i, none⟩ : Addr).block < (wr.drewN q).heap.size from hg)]
  exact h2.flat hk h0 i u hu
/-- What stands behind 'rest := append([]T{}, l[at:]...)'. -/
theorem after17G (hk : ∀ x, (enc x).length = k) {wr w8 : World} {v8 : Value} {base T g cap j q : Nat} {S : List β} (HO : wr.ownsRow base T k (.slice (some ⟨g, 0, none⟩) S.length cap) S.length (flatG enc S)) (hg2 : g < wr.heap.size)
    (hown : w8.ownsRow wr.heap.size T k v8 (0 + (S.length - j)) ([] ++ flatG enc (S.drop j))) (hgrow : ((wr.drewN q).alloc (Obj.cells #[] T)).grownBy w8 (some wr.heap.size)) (hnil : v8 ≠ .slice none 0 0) :
    ∃ h cap8, v8 = .slice (some ⟨h, 0, none⟩) (S.length - j) cap8 ∧ wr.heap.size ≤ h ∧ h < w8.heap.size ∧ GLies enc k w8 h 0 (S.drop j) ∧ w8.ownsRow base T k (.slice (some ⟨g, 0, none⟩) S.length cap) S.length (flatG enc S) ∧
      Below wr.heap.size wr w8 := by
  rw [Nat.zero_add, List.nil_append] at hown
  have d8 : Below wr.heap.size wr w8 := ((below_drewN (Below.refl _ _) q).alloc (Nat.le_refl _) _).grown hgrow (by simp) (fun k hk => by cases hk; exact Nat.le_refl _)
  obtain ⟨h, cap8, hv, hh1, hh2⟩ : ∃ h cap8, v8 = .slice (some ⟨h, 0, none⟩) (S.length - j) cap8 ∧ wr.heap.size ≤ h ∧ h < w8.heap.size := by
    rcases hown.2 with ⟨h0, _⟩ | ⟨h, cap8, cur, hv, hb, hg, _⟩
    · exact absurd h0 hnil
    · refine ⟨h, cap8, hv, hb, ?_⟩
      rcases Nat.lt_or_ge h w8.heap.size with hlt | hge
      · exact hlt
      · rw [Array.getElem?_eq_none hge] at hg; cases hg
  subst hv
  refine ⟨h, cap8, rfl, hh1, hh2, (ownG_cells hk (by rw [List.length_drop]) hown).1, ?_, d8⟩
  have hO : ((wr.drewN q).alloc (Obj.cells #[] T)).ownsRow base T k (.slice (some ⟨g, 0, none⟩) S.length cap) S.length (flatG enc S) := World.ownsRow.alloc (w := wr.drewN q) HO _
  exact hO.kept hgrow (Or.inr (by simp [Value.ownBlock]; omega))
theorem after17eG {wr : World} {base T g cap : Nat} {S : List β} (HO : wr.ownsRow base T k (.slice (some ⟨g, 0, none⟩) S.length cap) S.length (flatG enc S)) (q : Nat) :
    ((wr.drewN q).alloc (Obj.cells #[] T)).ownsRow base T k (.slice (some ⟨g, 0, none⟩) S.length cap) S.length (flatG enc S) ∧ Below wr.heap.size wr ((wr.drewN q).alloc (Obj.cells #[] T)) :=
  ⟨World.ownsRow.alloc (w := wr.drewN q) HO _, (below_drewN (Below.refl _ _) q).alloc (Nat.le_refl _) _⟩
theorem newsG_far (hk : ∀ x, (enc x).length = k) (h0 : 0 < k) {w8 w1 : World} {h : Nat} {R : List β} {o : Obj} {row : Option Nat} (hL : GLies enc k w8 h 0 R) (hh : h < w8.heap.size) (hg : (w8.alloc o).drew.grownBy w1 row) (hne : some h ≠ row) : ∀ i u, (flatG enc R)[i]? = some u → w1.cell? ((⟨h, 0, none⟩ : Addr).add i) = some u := by
  intro i u hu
  rw [addr_add, hg.cell_far _ (by simp; omega) hne]
  show (w8.alloc o).cell? _ = _
  rw [World.cell?_alloc_lt _ _ _ (show (⟨h, 0 + i, none⟩ : Addr).block < w8.heap.size from hh)]
  exact hL.flat hk h0 i u hu
/-- What stands behind 'append(append(l[:at], x), rest...)'. -/
theorem after18G {w w8 w1 w1' w2 : World} {v0 v1 v2 : Value} {o : Obj} {base T j : Nat} {S : List β} {x : β} (hj : j ≤ S.length) (hb : base ≤ w8.heap.size) (d8 : Below base w w8) (h0 : ∀ k, v0.ownBlock = some k → base ≤ k)
    (hown1 : w1.ownsRow base T k v1 (j + 1) (flatG enc (S.take j) ++ enc x)) (hgrow1 : (w8.alloc o).drew.grownBy w1 v0.ownBlock)
    (hown2 : w2.ownsRow base T k v2 (j + 1 + (S.length - j)) (flatG enc (S.take j) ++ enc x ++ flatG enc (S.drop j))) (hgrow2 : w1'.grownBy w2 v1.ownBlock) (hh : w1'.heap = w1.heap) (ho : w1'.os = w1.os) (ht : w1'.tape = w1.tape) (hu : w1'.output = w1.output) :
    w2.ownsRow base T k v2 (S.take j ++ x :: S.drop j).length (flatG enc (S.take j ++ x :: S.drop j)) ∧ Below base w w2 := by
  refine ⟨?_, ?_⟩
  · have e1 : flatG enc (S.take j ++ x :: S.drop j) = flatG enc (S.take j) ++ enc x ++ flatG enc (S.drop j) := by
      rw [flatG_append, List.append_assoc]
      congr 1
    have e2 : (S.take j ++ x :: S.drop j).length = j + 1 + (S.length - j) := by
      rw [List.length_append, List.length_cons, List.length_take, List.length_drop]; omega
    rw [e1, e2]
    exact hown2
  · have d1 : Below base w w1 := ((d8.alloc hb _).drew).grown hgrow1 (by simp; omega) h0
    have hs1 : base ≤ w1.heap.size := by
      have := hgrow1.size
      simp at this
      omega
    have d1' : Below base w w1' := ⟨ho.trans d1.os, ht.trans d1.tape, hu.trans d1.output, by rw [hh]; exact d1.size, fun b hb => by rw [hh]; exact d1.block b hb⟩
    exact d1'.grown hgrow2 (by rw [hh]; exact hs1) (fun k hk => (hown1.lt k hk).1)
theorem ownG_block {w : World} {base T : Nat} {v : Value} {n : Nat} {xs : List Value} (h : w.ownsRow base T k v n xs) (hn : 0 < n) : ∃ g cap, v = .slice (some ⟨g, 0, none⟩) n cap ∧ base ≤ g ∧ g < w.heap.size ∧ n ≤ cap := by
  rcases h.2 with ⟨_, hz⟩ | ⟨g, cap, cur, hv, hb, hg, hc, _⟩
  · omega
  · refine ⟨g, cap, hv, hb, ?_, hc⟩
    rcases Nat.lt_or_ge g w.heap.size with hlt | hge
    · exact hlt
    · rw [Array.getElem?_eq_none hge] at hg; cases hg
end

end Go.Proofs.YtidkpalckafgkaaGreatDoor
namespace Go.Proofs.YtidkpalckafgkaaGreatDoor.Rw
open Go Go.RowKit Go.Sort Go.Lib Tg Pk Ky Qy

theorem while_at {α : Type} {p : α → Bool} : ∀ (S : List α) (j : Nat), j ≤ S.length → (∀ i (h : i < S.length), i < j → p S[i] = true) → (∀ h : j < S.length, p S[j] = false) → S.takeWhile p = S.take j ∧ S.dropWhile p = S.drop j
  | [], j, _, _, _ => by simp
  | a :: r, 0, _, _, h2 => by
    have ha : p a = false := h2 (by simp)
    simp [ha]
  | a :: r, j + 1, hj, h1, h2 => by
    have ha : p a = true := h1 0 (by simp) (by omega)
    obtain ⟨i1, i2⟩ := while_at r j (by simpa using hj) (fun i h hi => h1 (i + 1) (by simpa using h) (by omega)) (fun h => h2 (by simpa using h))
    simp [ha, i1, i2]
theorem ins_at {S : List Item} {x : Item} {j : Nat} (hj : j ≤ S.length) (h1 : ∀ i (h : i < S.length), i < j → klt x S[i] = false) (h2 : ∀ h : j < S.length, klt x S[j] = true) : Stb.ins klt S x = S.take j ++ x :: S.drop j := by
  obtain ⟨a, b⟩ := while_at (p := fun y => !klt x y) S j hj (fun i h hi => by rw [h1 i h hi]; rfl) (fun h => by rw [h2 h]; rfl)
  unfold Stb.ins
  rw [a, b]
theorem bl_eq (a b : ByteArray) : Op.bytesLess a.toList b.toList = less a.data.toList b.data.toList := by
  rw [ByteArray.toList_eq, ByteArray.toList_eq]
theorem beq_eq (a b : ByteArray) : (a.toList == b.toList) = eqB a b := by
  rw [Bool.eq_iff_iff, eqB_true, ByteArray.toList_eq, ByteArray.toList_eq, beq_iff_eq]
  exact ⟨fun h => bb_inj h, fun h => congrArg (fun z : ByteArray => z.data.toList) h⟩
theorem leq_go {x y : Item} (h : klt x y = false) : Op.bytesLess y.key.toList x.key.toList = true ∨ (Op.bytesLess y.key.toList x.key.toList = false ∧ (y.key.toList == x.key.toList) = true) := by
  rw [bl_eq, beq_eq]
  rcases less_or y.key.data.toList x.key.data.toList with h1 | h1 | h1
  · exact Or.inl h1
  · exact Or.inr ⟨by rw [h1]; exact less_irrefl _, (eqB_true _ _).2 (bb_inj h1)⟩
  · exfalso
    unfold klt kl at h
    rw [h1] at h; cases h
theorem leq_stop {x y : Item} (h : klt x y = true) : Op.bytesLess y.key.toList x.key.toList = false ∧ (y.key.toList == x.key.toList) = false := by
  rw [bl_eq, beq_eq]
  unfold klt kl at h
  refine ⟨?_, ?_⟩
  · cases hc : less y.key.data.toList x.key.data.toList
    · rfl
    · have := less_trans _ _ _ h hc; rw [less_irrefl] at this; cases this
  · cases hc : eqB y.key x.key
    · rfl
    · rw [(eqB_true _ _).1 hc, less_irrefl] at h; cases h
theorem sortK_next (l : List Item) (k : Nat) (hk : k < l.length) : sortK (l.take (k + 1)) = Stb.ins klt (sortK (l.take k)) l[k] := by
  unfold sortK; rw [List.take_succ_eq_append_getElem hk, Stb.insL_snoc]
theorem sortK_len (l : List Item) : (sortK l).length = l.length := (sortK_perm l).length_eq

theorem i7_on {b p : Nat} {x1 : Int} {x2 : ByteArray} {c1 c2 : Int} {c3 : Bool} {c4 c5 : Int} {w w1 : World} (h : w.cell? ⟨b, p, none⟩ = some (.int .i64 x1) ∧ w.cell? ⟨b, p + 1, none⟩ = some (.string x2) ∧ w.cell? ⟨b, p + 2, none⟩ = some (.int .i64 c1) ∧ w.cell? ⟨b, p + 3, none⟩ = some (.int .i64 c2) ∧ w.cell? ⟨b, p + 4, none⟩ = some (.bool c3) ∧ w.cell? ⟨b, p + 5, none⟩ = some (.int .i64 c4) ∧ w.cell? ⟨b, p + 6, none⟩ = some (.int .i64 c5)) (d : Below w.heap.size w w1) :
    w1.cell? ⟨b, p, none⟩ = some (.int .i64 x1) ∧ w1.cell? ⟨b, p + 1, none⟩ = some (.string x2) ∧ w1.cell? ⟨b, p + 2, none⟩ = some (.int .i64 c1) ∧ w1.cell? ⟨b, p + 3, none⟩ = some (.int .i64 c2) ∧ w1.cell? ⟨b, p + 4, none⟩ = some (.bool c3) ∧ w1.cell? ⟨b, p + 5, none⟩ = some (.int .i64 c4) ∧ w1.cell? ⟨b, p + 6, none⟩ = some (.int .i64 c5) := by
  have k := (Keeps.refl w).on d
  exact ⟨k.2 _ _ h.1, k.2 _ _ h.2.1, k.2 _ _ h.2.2.1, k.2 _ _ h.2.2.2.1, k.2 _ _ h.2.2.2.2.1, k.2 _ _ h.2.2.2.2.2.1, k.2 _ _ h.2.2.2.2.2.2⟩
theorem i7_far {b p : Nat} {x1 : Int} {x2 : ByteArray} {c1 c2 : Int} {c3 : Bool} {c4 c5 : Int} {w w1 : World} {row : Option Nat} (h : w.cell? ⟨b, p, none⟩ = some (.int .i64 x1) ∧ w.cell? ⟨b, p + 1, none⟩ = some (.string x2) ∧ w.cell? ⟨b, p + 2, none⟩ = some (.int .i64 c1) ∧ w.cell? ⟨b, p + 3, none⟩ = some (.int .i64 c2) ∧ w.cell? ⟨b, p + 4, none⟩ = some (.bool c3) ∧ w.cell? ⟨b, p + 5, none⟩ = some (.int .i64 c4) ∧ w.cell? ⟨b, p + 6, none⟩ = some (.int .i64 c5)) (d : w.grownBy w1 row) (hb : some b ≠ row) :
    w1.cell? ⟨b, p, none⟩ = some (.int .i64 x1) ∧ w1.cell? ⟨b, p + 1, none⟩ = some (.string x2) ∧ w1.cell? ⟨b, p + 2, none⟩ = some (.int .i64 c1) ∧ w1.cell? ⟨b, p + 3, none⟩ = some (.int .i64 c2) ∧ w1.cell? ⟨b, p + 4, none⟩ = some (.bool c3) ∧ w1.cell? ⟨b, p + 5, none⟩ = some (.int .i64 c4) ∧ w1.cell? ⟨b, p + 6, none⟩ = some (.int .i64 c5) := by
  have hc : ∀ o v, w.cell? ⟨b, o, none⟩ = some v → w1.cell? ⟨b, o, none⟩ = some v := by
    intro o v e
    have := d.block b (World.block_lt_of_cell? _ _ e) hb
    unfold World.cell? at e ⊢
    simp only at e ⊢
    rw [this]
    exact e
  exact ⟨hc _ _ h.1, hc _ _ h.2.1, hc _ _ h.2.2.1, hc _ _ h.2.2.2.1, hc _ _ h.2.2.2.2.1, hc _ _ h.2.2.2.2.2.1, hc _ _ h.2.2.2.2.2.2⟩
/-- One new struct of seven cells. -/
theorem new1I (w : World) (t : TypeId) (x : Item) : ∀ j u, (itC x)[j]? = some u → (w.alloc (.cells #[.int .i64 x.win, .string x.key, .int .i64 x.c.cnt, .int .i64 x.c.sn, .bool x.c.so, .int .i64 x.c.mn, .int .i64 x.c.mx] t)).cell? ((⟨w.heap.size, 0, none⟩ : Addr).add j) = some u := by
  intro j u hu
  rw [addr_add, Nat.zero_add, cell_of_row _ w.heap.size j #[.int .i64 x.win, .string x.key, .int .i64 x.c.cnt, .int .i64 x.c.sn, .bool x.c.so, .int .i64 x.c.mn, .int .i64 x.c.mx] t (0, 0) (heap_alloc_new _ _)]
  simpa [itC] using hu
theorem new1Id (w : World) (t : TypeId) (x : Item) : ∀ j u, (itC x)[j]? = some u → (w.alloc (.cells #[.int .i64 x.win, .string x.key, .int .i64 x.c.cnt, .int .i64 x.c.sn, .bool x.c.so, .int .i64 x.c.mn, .int .i64 x.c.mx] t)).drew.cell? ((⟨w.heap.size, 0, none⟩ : Addr).add j) = some u := new1I w t x

set_option maxRecDepth 100000 in
set_option maxHeartbeats 4000000 in
theorem sorted_any (v : Value) (l : List Item) (w : World) (h : IRow w v l) (hn : l.length ≤ 1000) :
    Calls Tryz.prog 50 #[v] w fun e w' => (∃ v', e = .returned v' ∧ IRow w' v' (sortK l)) ∧ Below w.heap.size w w' := by
  obtain ⟨a, c, rfl, hc, hl⟩ := h
  obtain ⟨i0, hi, hz0, hz1, hz2⟩ := info50
  have HI := Lib.hid (And.intro hi (And.intro hz0 (And.intro hz1 hz2)))
  clear hi hz0 hz1 hz2
  have HL := Lib.hid hl
  clear hl
  go_enter Tryz.func50, Tryz.ntmps50
  go_wp2
  go_loopw [3, 4] (fun out i wr => ∃ (k : Nat) (S : List Item), k ≤ l.length ∧ i = .int .i64 k ∧ (k = 0 → out = .slice none 0 0) ∧ Hid (sortK (l.take k) = S) ∧ Hid (wr.ownsRow w.heap.size 50 7 out S.length (flatG itC S)) ∧ Below w.heap.size w wr) (fun _ i _ => l.length - (intOf i).toNat)
  case atStart => exact ⟨0, [], Nat.zero_le _, rfl, fun _ => rfl, rfl, ownG_nil _ _ _, Below.refl _ _⟩
  case round =>
    obtain ⟨k, S, hk, rfl, hnil, HT, HO, hbl⟩ := hrel
    by_cases hlt : k < l.length
    · obtain ⟨b, o, rfl, hb, hL⟩ := HL.out (ne_of_lt hlt)
      have hb' : b < wr.heap.size := Nat.lt_of_lt_of_le hb hbl.size
      have hS := i_at (hL.on hb hbl) k hlt
      have i1 : (k : Int) < (l.length : Int) := by omega
      have i2 : (0 : Int) ≤ (k : Int) := by omega
      have HSk : Hid (S.length = k) := by show _ = _; rw [← HT.out, sortK_len, List.length_take]; omega
      have hS4 : S.length ≤ 1000 := by rw [HSk.out]; omega
      have HR : Hid (sortK (l.take (k + 1)) = Stb.ins klt S l[k]) := by show _ = _; rw [sortK_next l k hlt, HT.out]
      generalize l[k] = x at *
      clear hL HL HT
      have hz := hbl.size
      rcases Nat.eq_zero_or_pos k with hk0 | hk0
      · have hs0 : S = [] := List.length_eq_zero_iff.1 (by rw [HSk.out]; exact hk0)
        subst hs0
        have h5 := hnil hk0
        subst h5
        have HR3 : Hid (sortK (l.take (k + 1)) = [].take 0 ++ x :: [].drop 0) := by
          show _ = _
          rw [HR.out]
          rfl
        clear hnil HR HO hk0 HSk hS4
        go_wp2_with fail
        refine wp_loop_rounds 1 ?_
        rw [rounds_succ]
        go_wp2_with fail
        go_quiet (fail)
        go_wp2_with fail
        have nA : Below wr.heap.size wr ((wr.drewN nq).alloc (Obj.cells #[] 50)) := (below_drewN (Below.refl _ _) nq).alloc (Nat.le_refl _) _
        have hS8 := i7_on hS nA
        have d8 := hbl.trans (nA.mono hz)
        have hw8 : wr.heap.size < ((wr.drewN nq).alloc (Obj.cells #[] 50)).heap.size := by simp
        clear hS nA
        generalize (wr.drewN nq).alloc (Obj.cells #[] 50) = w8 at *
        have hd8 := d8.size
        have hnb : some b ≠ (Value.slice none 0 0).ownBlock := by simp [Value.ownBlock]
        obtain ⟨s0, s1, s2, s3, s4, s5, s6⟩ := hS8
        go_region_law (first
          | (rename_i Kx hKx; have hq := H1; refine step_append_own _ (by rfl) _ _ _ (by rfl) w.heap.size 50 i0 _ 7 64 Tryz.underlying40 HI.out.1 HI.out.2.1 HI.out.2.2.1 HI.out.2.2.2 rfl (by omega) v1 (0 + 1) (flatG itC ([]) ++ itC x) (by rfl) H1.out.1 ⟨wr.heap.size, 0, none⟩ 0 0 [] (by rfl) (by rfl) (fun i u hu => by simp at hu) (fun u hu => by cases hu) (by unfold maxLen; omega) (by omega) (by have := H1.out.2.size; simp at this ⊢; omega) ?_; intro v2 w2 hown2 hgrow2 hnil2; have H2 := Lib.hid (And.intro hown2 hgrow2); clear hown2 hgrow2 hnil2 hq; refine hKx _ _ ?_; clear hKx Kx)
          | (rename_i Kx hKx; refine step_append_own _ (by rfl) _ _ _ (by rfl) w.heap.size 50 i0 _ 7 64 Tryz.underlying40 HI.out.1 HI.out.2.1 HI.out.2.2.1 HI.out.2.2.2 rfl (by omega) (.slice none 0 0) 0 [] (by rfl) (World.ownsRow_nil _ _ _ _) ⟨w8.heap.size, 0, none⟩ 1 1 (itC x) (by rfl) (by rfl) (new1Id w8 50 x) (itC_one x) (by unfold maxLen; omega) (by omega) (by simp; omega) ?_; intro v1 w1 hown1 hgrow1 hnil1; have H1 := Lib.hid (And.intro hown1 hgrow1); clear hown1 hgrow1 hnil1; refine hKx _ _ ?_; clear hKx Kx)
          | fail)
        clear s0 s1 s2 s3 s4 s5 s6
        obtain ⟨HO2, d2⟩ := after18G (S := []) (j := 0) (x := x) (Nat.le_refl _) (by omega) d8 (v0 := .slice none 0 0) (fun k hk => by cases hk) H1.out.1 H1.out.2 H2.out.1 H2.out.2 rfl rfl rfl rfl
        have HO2 := Lib.hid HO2
        clear H1 H2
        go_wp2_with fail
        exact ⟨⟨k + 1, _, by omega, by go_num, fun e => absurd e (Nat.succ_ne_zero k), HR3, HO2, d2⟩, by simp [intOf]; omega⟩
      · obtain ⟨g, cap, hv, hg1, hg2, hcap⟩ := ownG_block HO.out (by rw [HSk.out]; exact hk0)
        subst hv
        have hLS := (ownG_cells itC_len rfl HO.out).1
        have HLS := Lib.hid hLS
        clear hLS hnil
        go_wp2_with fail
        go_loopw [5] (fun at' wr2 => ∃ (j nq : Nat), j ≤ S.length ∧ at' = .int .i64 j ∧ wr2 = wr.drewN nq ∧ Hid (∀ i (h : i < S.length), i < j → klt x S[i] = false)) (fun i _ => S.length - (intOf i).toNat)
        case atStart => exact ⟨0, 0, Nat.zero_le _, rfl, rfl, fun _ _ h => absurd h (Nat.not_lt_zero _)⟩
        case round =>
          obtain ⟨j, n0, hj, rfl, rfl, HJ⟩ := hrel
          have j2 : (0 : Int) ≤ (j : Int) := by omega
          have j4 : (j : Int) ≤ (cap : Int) := by omega
          have j5 : (j : Int) ≤ (S.length : Int) := by omega
          by_cases hjl : j < S.length
          · obtain ⟨f0, f1, f2, f3, f4, f5, f6⟩ := i_at HLS.out j hjl
            rw [Nat.zero_add] at f0 f1 f2 f3 f4 f5 f6
            have j1 : (j : Int) < (S.length : Int) := by omega
            cases hq : klt x S[j]
            · have HPR := leq_go hq
              have HJ2 : Hid (∀ i (h : i < S.length), i < j + 1 → klt x S[i] = false) := by
                intro i h hi
                rcases Nat.lt_or_ge i j with g1 | g1
                · exact HJ.out i h g1
                · have : i = j := by omega
                  subst this
                  exact hq
              have HJl := Lib.hid hjl
              generalize S[j] = y at *
              clear hq HJ hjl
              obtain ⟨e0, e1, e2, e3, e4, e5, e6⟩ := hS
              rcases HPR with hp | ⟨hp, hr⟩
              · go_wp2_with fail
                go_quiet (fail)
                go_wp2_with fail
                exact ⟨⟨j + 1, _, by have := HJl.out; omega, by go_num, rfl, HJ2⟩, by have := HJl.out; simp [intOf]; omega⟩
              · go_wp2_with fail
                go_quiet (fail)
                go_wp2_with fail
                exact ⟨⟨j + 1, _, by have := HJl.out; omega, by go_num, rfl, HJ2⟩, by have := HJl.out; simp [intOf]; omega⟩
            · obtain ⟨hp, hr⟩ := leq_stop hq
              have HR3 : Hid (sortK (l.take (k + 1)) = S.take j ++ x :: S.drop j) := by
                show _ = _
                rw [HR.out]
                exact ins_at hj HJ.out (fun _ => hq)
              generalize S[j] = y at *
              clear hq HJ HR
              have hcj : ¬ cap = j := by omega
              obtain ⟨e0, e1, e2, e3, e4, e5, e6⟩ := id hS
              go_wp2_with fail
              go_quiet (fail)
              clear e0 e1 e2 e3 e4 e5 e6 f0 f1 f2 f3 f4 f5 f6
              go_wp2_with (first | (at_builtin; refine wpList_append_own _ rfl _ _ 40 rfl wr.heap.size 50 i0 (.agg #[.int .i64 0, .string ⟨#[]⟩, .int .i64 0, .int .i64 0, .bool false, .int .i64 0, .int .i64 0]) 7 64 Tryz.underlying40 HI.out.1 HI.out.2.1 HI.out.2.2.1 HI.out.2.2.2 rfl (by decide) _ _ _ rfl (World.ownsRow_made (wr.drewN _) #[] 0 (Nat.le_refl _) (Nat.zero_le _) (by simp)) ⟨g, j * 7, none⟩ (S.length - j) _ (flatG itC (S.drop j)) rfl (by rw [flatG_len itC_len, List.length_drop]) (dropG_news itC_len (by decide) HLS.out hg2 j _ _) (flatG_cells1 itC_one _) (by unfold maxLen; omega) (by omega) (by simp) ?_; intro v8 w8 hown8 hgrow8 hnil8))
              obtain ⟨h8, cap8, rfl, hh1, hh2, hL8, HO8, n8⟩ := after17G itC_len HO.out hg2 hown8 hgrow8 (fun e => by have := (hnil8.1 e).1; cases this)
              have hS8 := i7_on hS n8
              have HO8 := Lib.hid HO8
              have HL8 := Lib.hid hL8
              have d8 := hbl.trans (n8.mono hz)
              have hd8 := n8.size
              have hnb : some b ≠ (Value.slice (some ⟨g, 0, none⟩) j cap).ownBlock := by simp [Value.ownBlock]; omega
              clear hown8 hgrow8 hnil8 hL8 n8 HLS HO hS
              go_wp2_with fail
              obtain ⟨s0, s1, s2, s3, s4, s5, s6⟩ := hS8
              go_region_law (first
                | (rename_i Kx hKx; have hq := H1; refine step_append_own _ (by rfl) _ _ _ (by rfl) w.heap.size 50 i0 _ 7 64 Tryz.underlying40 HI.out.1 HI.out.2.1 HI.out.2.2.1 HI.out.2.2.2 rfl (by omega) v1 (j + 1) (flatG itC (S.take j) ++ itC x) (by rfl) H1.out.1 ⟨h8, 0, none⟩ (S.length - j) cap8 (flatG itC (S.drop j)) (by rfl) (by rw [flatG_len itC_len, List.length_drop]) (newsG_far itC_len (by decide) HL8.out hh2 H1.out.2 (by simp [Value.ownBlock]; omega)) (flatG_cells1 itC_one _) (by unfold maxLen; omega) (by omega) (by have := H1.out.2.size; simp at this ⊢; omega) ?_; intro v2 w2 hown2 hgrow2 hnil2; have H2 := Lib.hid (And.intro hown2 hgrow2); clear hown2 hgrow2 hnil2 hq; refine hKx _ _ ?_; clear hKx Kx)
                | (rename_i Kx hKx; refine step_append_own _ (by rfl) _ _ _ (by rfl) w.heap.size 50 i0 _ 7 64 Tryz.underlying40 HI.out.1 HI.out.2.1 HI.out.2.2.1 HI.out.2.2.2 rfl (by omega) (.slice (some ⟨g, 0, none⟩) j cap) j (flatG itC (S.take j)) (by rfl) (((ownG_cut itC_len HO8.out j hj).alloc _).drew) ⟨w8.heap.size, 0, none⟩ 1 1 (itC x) (by rfl) (by rfl) (new1Id w8 50 x) (itC_one x) (by unfold maxLen; omega) (by omega) (by simp; omega) ?_; intro v1 w1 hown1 hgrow1 hnil1; have H1 := Lib.hid (And.intro hown1 hgrow1); clear hown1 hgrow1 hnil1; refine hKx _ _ ?_; clear hKx Kx)
                | fail)
              clear s0 s1 s2 s3 s4 s5 s6
              obtain ⟨HO2, d2⟩ := after18G hj (by omega) d8 (v0 := .slice (some ⟨g, 0, none⟩) j cap) (fun k hk => by cases hk; exact hg1) H1.out.1 H1.out.2 H2.out.1 H2.out.2 rfl rfl rfl rfl
              have HO2 := Lib.hid HO2
              clear H1 H2 HO8
              go_wp2_with fail
              exact ⟨⟨k + 1, _, by omega, by go_num, fun e => absurd e (Nat.succ_ne_zero k), HR3, HO2, d2⟩, by simp [intOf]; omega⟩
          · have j1 : decide ((j : Int) < (S.length : Int)) = false := decide_eq_false (by omega)
            have j3 : decide (j < S.length) = false := decide_eq_false (by omega)
            have HR3 : Hid (sortK (l.take (k + 1)) = S.take j ++ x :: S.drop j) := by
              show _ = _
              rw [HR.out]
              exact ins_at hj HJ.out (fun h => absurd h hjl)
            have HDr := Lib.hid (show S.drop j = [] from List.drop_of_length_le (by omega))
            clear HR HJ
            by_cases hcj : cap = j
            · have hcj2 : j = cap := hcj.symm
              clear hcj
              subst hcj2
              go_wp2_with fail
              go_quiet (fail)
              go_wp2_with fail
              obtain ⟨HO8, n8⟩ := after17eG HO.out (n0 + nq)
              have hw8 : wr.heap.size < ((wr.drewN (n0 + nq)).alloc (Obj.cells #[] 50)).heap.size := by simp
              have hS8 := i7_on hS n8
              have d8 := hbl.trans (n8.mono hz)
              have hd8 := n8.size
              clear HLS HO hS n8
              generalize (wr.drewN (n0 + nq)).alloc (Obj.cells #[] 50) = w8 at *
              have HO8 := Lib.hid HO8
              have hnb : some b ≠ (Value.slice (some ⟨g, 0, none⟩) j j).ownBlock := by simp [Value.ownBlock]; omega
              obtain ⟨s0, s1, s2, s3, s4, s5, s6⟩ := hS8
              go_region_law (first
                | (rename_i Kx hKx; have hq := H1; refine step_append_own _ (by rfl) _ _ _ (by rfl) w.heap.size 50 i0 _ 7 64 Tryz.underlying40 HI.out.1 HI.out.2.1 HI.out.2.2.1 HI.out.2.2.2 rfl (by omega) v1 (j + 1) (flatG itC (S.take j) ++ itC x) (by rfl) H1.out.1 ⟨wr.heap.size, 0, none⟩ 0 0 [] (by rfl) (by rfl) (fun i u hu => by simp at hu) (fun u hu => by cases hu) (by unfold maxLen; omega) (by omega) (by have := H1.out.2.size; simp at this ⊢; omega) ?_; intro v2 w2 hown2 hgrow2 hnil2; have H2 := Lib.hid (And.intro hown2 hgrow2); clear hown2 hgrow2 hnil2 hq; refine hKx _ _ ?_; clear hKx Kx)
                | (rename_i Kx hKx; refine step_append_own _ (by rfl) _ _ _ (by rfl) w.heap.size 50 i0 _ 7 64 Tryz.underlying40 HI.out.1 HI.out.2.1 HI.out.2.2.1 HI.out.2.2.2 rfl (by omega) (.slice (some ⟨g, 0, none⟩) j j) j (flatG itC (S.take j)) (by rfl) (((ownG_cut itC_len HO8.out j hj).alloc _).drew) ⟨w8.heap.size, 0, none⟩ 1 1 (itC x) (by rfl) (by rfl) (new1Id w8 50 x) (itC_one x) (by unfold maxLen; omega) (by omega) (by simp; omega) ?_; intro v1 w1 hown1 hgrow1 hnil1; have H1 := Lib.hid (And.intro hown1 hgrow1); clear hown1 hgrow1 hnil1; refine hKx _ _ ?_; clear hKx Kx)
                | fail)
              clear s0 s1 s2 s3 s4 s5 s6
              have hSj : S.length - j = 0 := by omega
              obtain ⟨HO2, d2⟩ := after18G hj (by omega) d8 (v0 := .slice (some ⟨g, 0, none⟩) j j) (fun k hk => by cases hk; exact hg1) H1.out.1 H1.out.2 (by rw [hSj, HDr.out]; exact H2.out.1) H2.out.2 rfl rfl rfl rfl
              have HO2 := Lib.hid HO2
              clear H1 H2 HO8
              go_wp2_with fail
              exact ⟨⟨k + 1, _, by omega, by go_num, fun e => absurd e (Nat.succ_ne_zero k), HR3, HO2, d2⟩, by simp [intOf]; omega⟩
            · clear HDr
              go_wp2_with fail
              go_quiet (fail)
              go_wp2_with (first | (at_builtin; refine wpList_append_own _ rfl _ _ 40 rfl wr.heap.size 50 i0 (.agg #[.int .i64 0, .string ⟨#[]⟩, .int .i64 0, .int .i64 0, .bool false, .int .i64 0, .int .i64 0]) 7 64 Tryz.underlying40 HI.out.1 HI.out.2.1 HI.out.2.2.1 HI.out.2.2.2 rfl (by decide) _ _ _ rfl (World.ownsRow_made (wr.drewN _) #[] 0 (Nat.le_refl _) (Nat.zero_le _) (by simp)) ⟨g, j * 7, none⟩ (S.length - j) _ (flatG itC (S.drop j)) rfl (by rw [flatG_len itC_len, List.length_drop]) (dropG_news itC_len (by decide) HLS.out hg2 j _ _) (flatG_cells1 itC_one _) (by unfold maxLen; omega) (by omega) (by simp) ?_; intro v8 w8 hown8 hgrow8 hnil8))
              obtain ⟨h8, cap8, rfl, hh1, hh2, hL8, HO8, n8⟩ := after17G itC_len HO.out hg2 hown8 hgrow8 (fun e => by have := (hnil8.1 e).1; cases this)
              have hS8 := i7_on hS n8
              have HO8 := Lib.hid HO8
              have HL8 := Lib.hid hL8
              have d8 := hbl.trans (n8.mono hz)
              have hd8 := n8.size
              have hnb : some b ≠ (Value.slice (some ⟨g, 0, none⟩) j cap).ownBlock := by simp [Value.ownBlock]; omega
              clear hown8 hgrow8 hnil8 hL8 n8 HLS HO hS
              go_wp2_with fail
              obtain ⟨s0, s1, s2, s3, s4, s5, s6⟩ := hS8
              go_region_law (first
                | (rename_i Kx hKx; have hq := H1; refine step_append_own _ (by rfl) _ _ _ (by rfl) w.heap.size 50 i0 _ 7 64 Tryz.underlying40 HI.out.1 HI.out.2.1 HI.out.2.2.1 HI.out.2.2.2 rfl (by omega) v1 (j + 1) (flatG itC (S.take j) ++ itC x) (by rfl) H1.out.1 ⟨h8, 0, none⟩ (S.length - j) cap8 (flatG itC (S.drop j)) (by rfl) (by rw [flatG_len itC_len, List.length_drop]) (newsG_far itC_len (by decide) HL8.out hh2 H1.out.2 (by simp [Value.ownBlock]; omega)) (flatG_cells1 itC_one _) (by unfold maxLen; omega) (by omega) (by have := H1.out.2.size; simp at this ⊢; omega) ?_; intro v2 w2 hown2 hgrow2 hnil2; have H2 := Lib.hid (And.intro hown2 hgrow2); clear hown2 hgrow2 hnil2 hq; refine hKx _ _ ?_; clear hKx Kx)
                | (rename_i Kx hKx; refine step_append_own _ (by rfl) _ _ _ (by rfl) w.heap.size 50 i0 _ 7 64 Tryz.underlying40 HI.out.1 HI.out.2.1 HI.out.2.2.1 HI.out.2.2.2 rfl (by omega) (.slice (some ⟨g, 0, none⟩) j cap) j (flatG itC (S.take j)) (by rfl) (((ownG_cut itC_len HO8.out j hj).alloc _).drew) ⟨w8.heap.size, 0, none⟩ 1 1 (itC x) (by rfl) (by rfl) (new1Id w8 50 x) (itC_one x) (by unfold maxLen; omega) (by omega) (by simp; omega) ?_; intro v1 w1 hown1 hgrow1 hnil1; have H1 := Lib.hid (And.intro hown1 hgrow1); clear hown1 hgrow1 hnil1; refine hKx _ _ ?_; clear hKx Kx)
                | fail)
              clear s0 s1 s2 s3 s4 s5 s6
              obtain ⟨HO2, d2⟩ := after18G hj (by omega) d8 (v0 := .slice (some ⟨g, 0, none⟩) j cap) (fun k hk => by cases hk; exact hg1) H1.out.1 H1.out.2 H2.out.1 H2.out.2 rfl rfl rfl rfl
              have HO2 := Lib.hid HO2
              clear H1 H2 HO8
              go_wp2_with fail
              exact ⟨⟨k + 1, _, by omega, by go_num, fun e => absurd e (Nat.succ_ne_zero k), HR3, HO2, d2⟩, by simp [intOf]; omega⟩
    · have HE := Lib.hid HT.out
      rw [List.take_of_length_le (by omega)] at HE
      have hr := ownG_row itC_len HO.out
      rw [← HE.out] at hr
      clear HE HO HT HL HI
      go_wp2_with fail
      go_ret
      exact ⟨⟨_, rfl, hr⟩, hbl⟩

end Go.Proofs.YtidkpalckafgkaaGreatDoor.Rw
namespace Go.Proofs.YtidkpalckafgkaaGreatDoor.Rw
open Go Go.RowKit Go.Sort Go.Lib Tg Pk Ky Qy

set_option maxRecDepth 100000 in
theorem info86 : ∃ i, Tryz.prog.info? 86 = some i ∧ i.zero = some (.agg #[.int .i64 0, .string ⟨#[]⟩, .int .i64 0, .int .i64 0, .bool false, .int .i64 0, .int .i64 0]) ∧ i.size = 7 ∧ i.bytes = 64 := ⟨_, rfl, rfl, rfl, rfl⟩

/-- What is no array of parts stays as it was. -/
def K86 (w w' : World) : Prop := w.heap.size ≤ w'.heap.size ∧ ∀ b, b < w.heap.size → (∀ cur, w.heap[b]? ≠ some (.cells cur 86 (0, 0))) → w'.heap[b]? = w.heap[b]?
theorem K86.below {w w1 : World} (d : Below w.heap.size w w1) : K86 w w1 := ⟨d.size, fun b hb _ => d.block b hb⟩
theorem K86.trans {w w1 w2 : World} (h : K86 w w1) (k : K86 w1 w2) : K86 w w2 :=
  ⟨Nat.le_trans h.1 k.1, fun b hb hn => by
    have e := h.2 b hb hn
    rw [k.2 b (Nat.lt_of_lt_of_le hb h.1) (fun cur => by rw [e]; exact hn cur), e]⟩
theorem K86.own {w w1 : World} {base size n : Nat} {v : Value} {xs : List Value} (h : w.ownsRow base 86 size v n xs) (d : w.grownBy w1 v.ownBlock) : K86 w w1 :=
  ⟨d.size, fun b hb hn => d.block b hb (fun e => by
    rcases h.2 with ⟨h0, _⟩ | ⟨g, cap, cur, hv, _, hg, _⟩
    · rw [h0] at e; cases e
    · rw [hv] at e
      cases e
      exact hn cur hg)⟩
theorem K86.cell {w w1 : World} (h : K86 w w1) {b o : Nat} {v : Value} (hn : ∀ cur, w.heap[b]? ≠ some (.cells cur 86 (0, 0))) (hc : w.cell? ⟨b, o, none⟩ = some v) : w1.cell? ⟨b, o, none⟩ = some v := by
  have e := h.2 b (World.block_lt_of_cell? _ _ hc) hn
  rw [World.cell?_of_block (a := ⟨b, o, none⟩) e]
  exact hc
theorem flat_set : ∀ (S : List Item) (j : Nat) (hj : j < S.length) (c : Cl.Cell), flatG itC (S.set j ⟨(S[j]).win, (S[j]).key, c⟩) = (((((flatG itC S).set (j * 7 + 2) (.int .i64 c.cnt)).set (j * 7 + 3) (.int .i64 c.sn)).set (j * 7 + 4) (.bool c.so)).set (j * 7 + 5) (.int .i64 c.mn)).set (j * 7 + 6) (.int .i64 c.mx)
  | [], _, hj, _ => by simp at hj
  | y :: r, 0, _, c => rfl
  | y :: r, j + 1, hj, c => by
    have ih := flat_set r j (by simpa using hj) c
    have a2 : (j + 1) * 7 + 2 = (j * 7 + 2) + 7 := by omega
    have a3 : (j + 1) * 7 + 3 = (j * 7 + 3) + 7 := by omega
    have a4 : (j + 1) * 7 + 4 = (j * 7 + 4) + 7 := by omega
    have a5 : (j + 1) * 7 + 5 = (j * 7 + 5) + 7 := by omega
    have a6 : (j + 1) * 7 + 6 = (j * 7 + 6) + 7 := by omega
    show itC y ++ flatG itC (r.set j ⟨(r[j]'(by simpa using hj)).win, (r[j]'(by simpa using hj)).key, c⟩) = _
    rw [ih, a2, a3, a4, a5, a6]
    rfl

set_option maxRecDepth 100000 in
set_option maxHeartbeats 4000000 in
theorem into_some (base g cap : Nat) (S : List Item) (x : Item) (w0 w : World) (hb : base ≤ w.heap.size) (hd0 : Below base w0 w) (hO : w.ownsRow base 86 7 (.slice (some ⟨g, 0, none⟩) S.length cap) S.length (flatG itC S)) (hg1 : base ≤ g) (hg0 : g < w.heap.size) (hcap : S.length ≤ cap) (hn : S.length ≤ 1000) (hc : ∀ p ∈ S, Cl.okC p.c) (hx : Cl.okC x.c) :
    Calls Tryz.prog 54 #[.slice (some ⟨g, 0, none⟩) S.length cap, .agg #[.int .i64 x.win, .string x.key, .int .i64 x.c.cnt, .int .i64 x.c.sn, .bool x.c.so, .int .i64 x.c.mn, .int .i64 x.c.mx]] w fun e w' => (∃ v', e = .returned v' ∧ w'.ownsRow base 86 7 v' (putP S x).length (flatG itC (putP S x))) ∧ Below base w0 w' ∧ K86 w w' := by
  obtain ⟨i0, hi, hz0, hz1, hz2⟩ := info86
  have HI := Lib.hid (And.intro hi (And.intro hz0 (And.intro hz1 hz2)))
  clear hi hz0 hz1 hz2
  have HC := Lib.hid hc
  have HX := Lib.hid hx
  clear hc hx
  go_enter Tryz.func54, Tryz.ntmps54
  go_wp2_with fail
  have nX := aBelow w (.cells #[.int .i64 x.win, .string x.key, .int .i64 x.c.cnt, .int .i64 x.c.sn, .bool x.c.so, .int .i64 x.c.mn, .int .i64 x.c.mx] 86)
  have HO := Lib.hid (hO.alloc (.cells #[.int .i64 x.win, .string x.key, .int .i64 x.c.cnt, .int .i64 x.c.sn, .bool x.c.so, .int .i64 x.c.mn, .int .i64 x.c.mx] 86))
  have hzz : (w.alloc (.cells #[.int .i64 x.win, .string x.key, .int .i64 x.c.cnt, .int .i64 x.c.sn, .bool x.c.so, .int .i64 x.c.mn, .int .i64 x.c.mx] 86)).heap.size = w.heap.size + 1 := by simp
  have X : Hid (IX w.heap.size x.win x.key x.c.cnt x.c.sn x.c.so x.c.mn x.c.mx (w.alloc (.cells #[.int .i64 x.win, .string x.key, .int .i64 x.c.cnt, .int .i64 x.c.sn, .bool x.c.so, .int .i64 x.c.mn, .int .i64 x.c.mx] 86))) := by
    refine ⟨?_, ?_, ?_, ?_, ?_, ?_, ?_⟩ <;> simp
  have hd := hd0.trans (nX.mono hb)
  have KX := Lib.hid (K86.below nX)
  clear hO nX hd0
  generalize w.alloc (.cells #[.int .i64 x.win, .string x.key, .int .i64 x.c.cnt, .int .i64 x.c.sn, .bool x.c.so, .int .i64 x.c.mn, .int .i64 x.c.mx] 86) = wr at *
  have hz : base ≤ wr.heap.size := by omega
  have hg2 : g < wr.heap.size := by omega
  have hgx : ¬ g = w.heap.size := by omega
  have hgx2 : w.heap.size < wr.heap.size := by omega
  clear hzz
  have hLS := (ownG_cells itC_len rfl HO.out).1
  have HLS := Lib.hid hLS
  clear hLS
  go_loopw [5] (fun at' wr2 => ∃ (j nq : Nat), j ≤ S.length ∧ at' = .int .i64 j ∧ wr2 = wr.drewN nq ∧ Hid (∀ i (h : i < S.length), i < j → pl S[i] x = true)) (fun i _ => S.length - (intOf i).toNat)
  case atStart => exact ⟨0, 0, Nat.zero_le _, rfl, rfl, fun _ _ h => absurd h (Nat.not_lt_zero _)⟩
  case round =>
    obtain ⟨j, n0, hj, rfl, rfl, HJ⟩ := hrel
    have j2 : (0 : Int) ≤ (j : Int) := by omega
    have j4 : (j : Int) ≤ (cap : Int) := by omega
    have j5 : (j : Int) ≤ (S.length : Int) := by omega
    by_cases hjl : j < S.length
    · obtain ⟨f0, f1, f2, f3, f4, f5, f6⟩ := i_at HLS.out j hjl
      rw [Nat.zero_add] at f0 f1 f2 f3 f4 f5 f6
      obtain ⟨x0, x1, x2, x3, x4, x5, x6⟩ := X.out
      have j1 : (j : Int) < (S.length : Int) := by omega
      by_cases h1 : (S[j]).win < x.win
      · have hq : pl S[j] x = true := (plt_true _ _ _ _).2 (Or.inl h1)
        have p1 : decide ((S[j]).win < x.win) = true := decide_eq_true h1
        have HJ2 : Hid (∀ i (h : i < S.length), i < j + 1 → pl S[i] x = true) := by
          intro i h hi
          rcases Nat.lt_or_ge i j with g1 | g1
          · exact HJ.out i h g1
          · have : i = j := by omega
            subst this
            exact hq
        have HJl := Lib.hid hjl
        generalize S[j] = y at *
        clear hq HJ hjl h1
        go_wp2_with fail
        go_quiet (fail)
        go_wp2_with fail
        exact ⟨⟨j + 1, _, by have := HJl.out; omega, by go_num, rfl, HJ2⟩, by have := HJl.out; simp [intOf]; omega⟩
      · have p1 : decide ((S[j]).win < x.win) = false := decide_eq_false h1
        by_cases h2 : (S[j]).win = x.win
        · have p2 : ((S[j]).win == x.win) = true := by simp [h2]
          rcases less_or (S[j]).key.data.toList x.key.data.toList with h3 | h3 | h3
          · have hq : pl S[j] x = true := (plt_true _ _ _ _).2 (Or.inr ⟨h2, h3⟩)
            have p3 : Op.bytesLess (S[j]).key.toList x.key.toList = true := by rw [bl_eq]; exact h3
            have HJ2 : Hid (∀ i (h : i < S.length), i < j + 1 → pl S[i] x = true) := by
              intro i h hi
              rcases Nat.lt_or_ge i j with g1 | g1
              · exact HJ.out i h g1
              · have : i = j := by omega
                subst this
                exact hq
            have HJl := Lib.hid hjl
            generalize S[j] = y at *
            clear hq HJ hjl h1 h2 h3
            go_wp2_with fail
            go_quiet (fail)
            go_wp2_with fail
            exact ⟨⟨j + 1, _, by have := HJl.out; omega, by go_num, rfl, HJ2⟩, by have := HJl.out; simp [intOf]; omega⟩
          · have hkk : (S[j]).key = x.key := bb_inj h3
            have hq1 : pl S[j] x = false := by rw [pl_place (c := S[j]) h2.symm hkk.symm]; exact pl_irrefl _
            have hq2 : pl x S[j] = false := by rw [pl_place (c := x) h2 hkk]; exact pl_irrefl _
            have p3 : Op.bytesLess (S[j]).key.toList x.key.toList = false := by rw [bl_eq, h3]; exact less_irrefl _
            have p4 : ((S[j]).key.toList == x.key.toList) = true := by rw [beq_eq]; exact (eqB_true _ _).2 hkk
            have HP := Lib.hid (((putP_at S x j hj HJ.out).2 hjl hq1).2 hq2)
            have HCy := Lib.hid (HC.out _ (List.getElem_mem hjl))
            clear hq1 hq2 HJ h1 h2 h3 hkk
            have HFS := Lib.hid (flat_set S j hjl (Cl.two (S[j]).c x.c))
            have HTW := Lib.hid (fun W => Ce.refTwo_any (S[j]).c x.c W HCy.out HX.out)
            generalize Cl.two (S[j]).c x.c = tc at *
            generalize S[j] = y at *
            clear HCy
            go_wp2_with fail
            go_quiet (fail)
            generalize nq = n1
            go_wp2_with fail
            go_quiet (fail)
            go_wp2_with fail
            go_region_with (go_at_call 93; refine (HTW.out _).mono ?_; rintro e w2 ⟨rfl, m2⟩; have m3 : Below wr.heap.size wr w2 := ⟨m2.os, m2.tape, m2.output, m2.size, m2.block⟩; have HO2 := Lib.hid (own_on HO.out m3); have k2 := keepC m3 f2 hg2; have k3 := keepC m3 f3 hg2; have k4 := keepC m3 f4 hg2; have k5 := keepC m3 f5 hg2; have k6 := keepC m3 f6 hg2; have z2 := HO2.out.frozenAt (j * 7 + 2); have z3 := HO2.out.frozenAt (j * 7 + 3); have z4 := HO2.out.frozenAt (j * 7 + 4); have z5 := HO2.out.frozenAt (j * 7 + 5); have z6 := HO2.out.frozenAt (j * 7 + 6))
            all_goals
              have Q5 : Hid ((((((w2.setCell ⟨g, j * 7 + 2, none⟩ (.int .i64 tc.cnt)).setCell ⟨g, j * 7 + 2 + 1, none⟩ (.int .i64 tc.sn)).setCell ⟨g, j * 7 + 2 + 2, none⟩ (.bool tc.so)).setCell ⟨g, j * 7 + 2 + 3, none⟩ (.int .i64 tc.mn)).setCell ⟨g, j * 7 + 2 + 4, none⟩ (.int .i64 tc.mx)).ownsRow base 86 7 (.slice (some ⟨g, 0, none⟩) S.length cap) (putP S x).length (flatG itC (putP S x))) := by
                show World.ownsRow _ _ _ _ _ _ _
                rw [HP.out, HFS.out, List.length_set]
                exact (((((HO2.out.stored (j * 7 + 2) (.int .i64 tc.cnt)).1.stored (j * 7 + 3) (.int .i64 tc.sn)).1.stored (j * 7 + 4) (.bool tc.so)).1.stored (j * 7 + 5) (.int .i64 tc.mn)).1.stored (j * 7 + 6) (.int .i64 tc.mx)).1
              have dd := hd.trans (m3.mono hz)
              have D5 := Lib.hid (((((dd.setCell (p := ⟨g, j * 7 + 2, none⟩) hg1 (.int .i64 tc.cnt)).setCell (p := ⟨g, j * 7 + 2 + 1, none⟩) hg1 (.int .i64 tc.sn)).setCell (p := ⟨g, j * 7 + 2 + 2, none⟩) hg1 (.bool tc.so)).setCell (p := ⟨g, j * 7 + 2 + 3, none⟩) hg1 (.int .i64 tc.mn)).setCell (p := ⟨g, j * 7 + 2 + 4, none⟩) hg1 (.int .i64 tc.mx))
              have s1 := HO2.out.stored (j * 7 + 2) (.int .i64 tc.cnt)
              have s2 := s1.1.stored (j * 7 + 3) (.int .i64 tc.sn)
              have s3 := s2.1.stored (j * 7 + 4) (.bool tc.so)
              have s4 := s3.1.stored (j * 7 + 5) (.int .i64 tc.mn)
              have s5 := s4.1.stored (j * 7 + 6) (.int .i64 tc.mx)
              have K5 := Lib.hid ((KX.out.trans (K86.below m3)).trans ((K86.own HO2.out s1.2).trans ((K86.own s1.1 s2.2).trans ((K86.own s2.1 s3.2).trans ((K86.own s3.1 s4.2).trans (K86.own s4.1 s5.2))))))
              clear s1 s2 s3 s4 s5
              clear HO2 k2 k3 k4 k5 k6 z2 z3 z4 z5 z6 m2 m3 dd HO X HLS HFS HP
              go_wp2_with fail
              go_ret
              exact ⟨⟨_, rfl, Q5.out⟩, D5.out, K5.out⟩
          · have hq1 : pl S[j] x = false := plt_asymm ((plt_true _ _ _ _).2 (Or.inr ⟨h2.symm, h3⟩))
            have hq2 : pl x S[j] = true := (plt_true _ _ _ _).2 (Or.inr ⟨h2.symm, h3⟩)
            have p3 : Op.bytesLess (S[j]).key.toList x.key.toList = false := by
              rw [bl_eq]
              cases hcc : less (S[j]).key.data.toList x.key.data.toList
              · rfl
              · have := less_trans _ _ _ h3 hcc; rw [less_irrefl] at this; cases this
            have p4 : ((S[j]).key.toList == x.key.toList) = false := by
              rw [beq_eq]
              cases hcc : eqB (S[j]).key x.key
              · rfl
              · rw [(eqB_true _ _).1 hcc, less_irrefl] at h3; cases h3
            have HP : Hid (putP S x = S.take j ++ x :: S.drop j) := ((putP_at S x j hj HJ.out).2 hjl hq1).1 hq2
            generalize S[j] = y at *
            clear hq1 hq2 HJ h1 h2 h3
            have hcj : ¬ cap = j := by omega
            go_wp2_with fail
            go_quiet (fail)
            generalize nq = n1
            go_wp2_with fail
            go_quiet (fail)
            clear f0 f1 f2 f3 f4 f5 f6 x0 x1 x2 x3 x4 x5 x6
            go_wp2_with (first | (at_builtin; refine wpList_append_own _ rfl _ _ 74 rfl wr.heap.size 86 i0 (.agg #[.int .i64 0, .string ⟨#[]⟩, .int .i64 0, .int .i64 0, .bool false, .int .i64 0, .int .i64 0]) 7 64 Tryz.underlying74 HI.out.1 HI.out.2.1 HI.out.2.2.1 HI.out.2.2.2 rfl (by decide) _ _ _ rfl (World.ownsRow_made (wr.drewN _) #[] 0 (Nat.le_refl _) (Nat.zero_le _) (by simp)) ⟨g, j * 7, none⟩ (S.length - j) _ (flatG itC (S.drop j)) rfl (by rw [flatG_len itC_len, List.length_drop]) (dropG_news itC_len (by decide) HLS.out hg2 j _ _) (flatG_cells1 itC_one _) (by unfold maxLen; omega) (by omega) (by simp) ?_; intro v8 w8 hown8 hgrow8 hnil8))
            obtain ⟨h8, cap8, rfl, hh1, hh2, hL8, HO8, n8⟩ := after17G itC_len HO.out hg2 hown8 hgrow8 (fun e => by have := (hnil8.1 e).1; cases this)
            have hS8 := X.out.on n8
            have HO8 := Lib.hid HO8
            have HL8 := Lib.hid hL8
            have d8 := hd.trans (n8.mono hz)
            have hd8 := n8.size
            have KM := Lib.hid (KX.out.trans (K86.below n8))
            clear hown8 hgrow8 hnil8 hL8 n8 HLS HO X
            go_wp2_with fail
            obtain ⟨s0, s1, s2, s3, s4, s5, s6⟩ := hS8
            go_region_law (first
              | (rename_i Kx hKx; have hq := H1; refine step_append_own _ (by rfl) _ _ _ (by rfl) base 86 i0 _ 7 64 Tryz.underlying74 HI.out.1 HI.out.2.1 HI.out.2.2.1 HI.out.2.2.2 rfl (by omega) v1 (j + 1) (flatG itC (S.take j) ++ itC x) (by rfl) H1.out.1 ⟨h8, 0, none⟩ (S.length - j) cap8 (flatG itC (S.drop j)) (by rfl) (by rw [flatG_len itC_len, List.length_drop]) (newsG_far itC_len (by decide) HL8.out hh2 H1.out.2 (by simp [Value.ownBlock]; omega)) (flatG_cells1 itC_one _) (by unfold maxLen; omega) (by omega) (by have := H1.out.2.size; simp at this ⊢; omega) ?_; intro v2 w2 hown2 hgrow2 hnil2; have H2 := Lib.hid (And.intro hown2 hgrow2); clear hown2 hgrow2 hnil2 hq; refine hKx _ _ ?_; clear hKx Kx)
              | (rename_i Kx hKx; refine step_append_own _ (by rfl) _ _ _ (by rfl) base 86 i0 _ 7 64 Tryz.underlying74 HI.out.1 HI.out.2.1 HI.out.2.2.1 HI.out.2.2.2 rfl (by omega) (.slice (some ⟨g, 0, none⟩) j cap) j (flatG itC (S.take j)) (by rfl) (((ownG_cut itC_len HO8.out j hj).alloc _).drew) ⟨w8.heap.size, 0, none⟩ 1 1 (itC x) (by rfl) (by rfl) (new1Id w8 86 x) (itC_one x) (by unfold maxLen; omega) (by omega) (by simp; omega) ?_; intro v1 w1 hown1 hgrow1 hnil1; have H1 := Lib.hid (And.intro hown1 hgrow1); clear hown1 hgrow1 hnil1; refine hKx _ _ ?_; clear hKx Kx)
              | fail)
            clear s0 s1 s2 s3 s4 s5 s6
            obtain ⟨HO2, d2⟩ := after18G hj (by omega) d8 (v0 := .slice (some ⟨g, 0, none⟩) j cap) (fun k hk => by cases hk; exact hg1) H1.out.1 H1.out.2 H2.out.1 H2.out.2 rfl rfl rfl rfl
            rw [← HP.out] at HO2
            have HO2 := Lib.hid HO2
            have KK := Lib.hid (KM.out.trans ((K86.below ((aBelow w8 _).drew)).trans ((K86.own (((ownG_cut itC_len HO8.out j hj).alloc _).drew) H1.out.2).trans (K86.own H1.out.1 H2.out.2))))
            clear H1 H2 HO8 KM KX
            go_wp2_with fail
            go_ret
            exact ⟨⟨_, rfl, HO2.out⟩, d2, KK.out⟩
        · have p2 : ((S[j]).win == x.win) = false := by simp [h2]
          have h4 : x.win < (S[j]).win := by omega
          have hq1 : pl S[j] x = false := plt_asymm ((plt_true _ _ _ _).2 (Or.inl h4))
          have hq2 : pl x S[j] = true := (plt_true _ _ _ _).2 (Or.inl h4)
          have HP : Hid (putP S x = S.take j ++ x :: S.drop j) := ((putP_at S x j hj HJ.out).2 hjl hq1).1 hq2
          generalize S[j] = y at *
          clear hq1 hq2 HJ h1 h2 h4
          have hcj : ¬ cap = j := by omega
          go_wp2_with fail
          go_quiet (fail)
          generalize nq = n1
          go_wp2_with fail
          go_quiet (fail)
          clear f0 f1 f2 f3 f4 f5 f6 x0 x1 x2 x3 x4 x5 x6
          go_wp2_with (first | (at_builtin; refine wpList_append_own _ rfl _ _ 74 rfl wr.heap.size 86 i0 (.agg #[.int .i64 0, .string ⟨#[]⟩, .int .i64 0, .int .i64 0, .bool false, .int .i64 0, .int .i64 0]) 7 64 Tryz.underlying74 HI.out.1 HI.out.2.1 HI.out.2.2.1 HI.out.2.2.2 rfl (by decide) _ _ _ rfl (World.ownsRow_made (wr.drewN _) #[] 0 (Nat.le_refl _) (Nat.zero_le _) (by simp)) ⟨g, j * 7, none⟩ (S.length - j) _ (flatG itC (S.drop j)) rfl (by rw [flatG_len itC_len, List.length_drop]) (dropG_news itC_len (by decide) HLS.out hg2 j _ _) (flatG_cells1 itC_one _) (by unfold maxLen; omega) (by omega) (by simp) ?_; intro v8 w8 hown8 hgrow8 hnil8))
          obtain ⟨h8, cap8, rfl, hh1, hh2, hL8, HO8, n8⟩ := after17G itC_len HO.out hg2 hown8 hgrow8 (fun e => by have := (hnil8.1 e).1; cases this)
          have hS8 := X.out.on n8
          have HO8 := Lib.hid HO8
          have HL8 := Lib.hid hL8
          have d8 := hd.trans (n8.mono hz)
          have hd8 := n8.size
          have KM := Lib.hid (KX.out.trans (K86.below n8))
          clear hown8 hgrow8 hnil8 hL8 n8 HLS HO X
          go_wp2_with fail
          obtain ⟨s0, s1, s2, s3, s4, s5, s6⟩ := hS8
          go_region_law (first
            | (rename_i Kx hKx; have hq := H1; refine step_append_own _ (by rfl) _ _ _ (by rfl) base 86 i0 _ 7 64 Tryz.underlying74 HI.out.1 HI.out.2.1 HI.out.2.2.1 HI.out.2.2.2 rfl (by omega) v1 (j + 1) (flatG itC (S.take j) ++ itC x) (by rfl) H1.out.1 ⟨h8, 0, none⟩ (S.length - j) cap8 (flatG itC (S.drop j)) (by rfl) (by rw [flatG_len itC_len, List.length_drop]) (newsG_far itC_len (by decide) HL8.out hh2 H1.out.2 (by simp [Value.ownBlock]; omega)) (flatG_cells1 itC_one _) (by unfold maxLen; omega) (by omega) (by have := H1.out.2.size; simp at this ⊢; omega) ?_; intro v2 w2 hown2 hgrow2 hnil2; have H2 := Lib.hid (And.intro hown2 hgrow2); clear hown2 hgrow2 hnil2 hq; refine hKx _ _ ?_; clear hKx Kx)
            | (rename_i Kx hKx; refine step_append_own _ (by rfl) _ _ _ (by rfl) base 86 i0 _ 7 64 Tryz.underlying74 HI.out.1 HI.out.2.1 HI.out.2.2.1 HI.out.2.2.2 rfl (by omega) (.slice (some ⟨g, 0, none⟩) j cap) j (flatG itC (S.take j)) (by rfl) (((ownG_cut itC_len HO8.out j hj).alloc _).drew) ⟨w8.heap.size, 0, none⟩ 1 1 (itC x) (by rfl) (by rfl) (new1Id w8 86 x) (itC_one x) (by unfold maxLen; omega) (by omega) (by simp; omega) ?_; intro v1 w1 hown1 hgrow1 hnil1; have H1 := Lib.hid (And.intro hown1 hgrow1); clear hown1 hgrow1 hnil1; refine hKx _ _ ?_; clear hKx Kx)
            | fail)
          clear s0 s1 s2 s3 s4 s5 s6
          obtain ⟨HO2, d2⟩ := after18G hj (by omega) d8 (v0 := .slice (some ⟨g, 0, none⟩) j cap) (fun k hk => by cases hk; exact hg1) H1.out.1 H1.out.2 H2.out.1 H2.out.2 rfl rfl rfl rfl
          rw [← HP.out] at HO2
          have HO2 := Lib.hid HO2
          have KK := Lib.hid (KM.out.trans ((K86.below ((aBelow w8 _).drew)).trans ((K86.own (((ownG_cut itC_len HO8.out j hj).alloc _).drew) H1.out.2).trans (K86.own H1.out.1 H2.out.2))))
          clear H1 H2 HO8 KM KX
          go_wp2_with fail
          go_ret
          exact ⟨⟨_, rfl, HO2.out⟩, d2, KK.out⟩
    · have j1 : decide ((j : Int) < (S.length : Int)) = false := decide_eq_false (by omega)
      have j3 : decide (j < S.length) = false := decide_eq_false (by omega)
      have HDr := Lib.hid (show S.drop j = [] from List.drop_of_length_le (by omega))
      have HP : Hid (putP S x = S.take j ++ x :: S.drop j) := by
        show _ = _
        rw [HDr.out, List.take_of_length_le (by omega)]
        exact (putP_at S x j hj HJ.out).1 (by omega)
      clear HJ
      by_cases hcj : cap = j
      · have hcj2 : j = cap := hcj.symm
        clear hcj
        subst hcj2
        go_wp2_with fail
        go_quiet (fail)
        generalize nq = n1
        go_wp2_with fail
        go_quiet (fail)
        go_wp2_with fail
        obtain ⟨HO8, n8⟩ := after17eG HO.out (n0 + n1 + nq)
        have hw8 : wr.heap.size < ((wr.drewN (n0 + n1 + nq)).alloc (Obj.cells #[] 86)).heap.size := by simp
        have hS8 := X.out.on n8
        have d8 := hd.trans (n8.mono hz)
        have hd8 := n8.size
        have KM := Lib.hid (KX.out.trans (K86.below n8))
        clear HLS HO X n8
        generalize (wr.drewN (n0 + n1 + nq)).alloc (Obj.cells #[] 86) = w8 at *
        have HO8 := Lib.hid HO8
        obtain ⟨s0, s1, s2, s3, s4, s5, s6⟩ := hS8
        go_region_law (first
          | (rename_i Kx hKx; have hq := H1; refine step_append_own _ (by rfl) _ _ _ (by rfl) base 86 i0 _ 7 64 Tryz.underlying74 HI.out.1 HI.out.2.1 HI.out.2.2.1 HI.out.2.2.2 rfl (by omega) v1 (j + 1) (flatG itC (S.take j) ++ itC x) (by rfl) H1.out.1 ⟨wr.heap.size, 0, none⟩ 0 0 [] (by rfl) (by rfl) (fun i u hu => by simp at hu) (fun u hu => by cases hu) (by unfold maxLen; omega) (by omega) (by have := H1.out.2.size; simp at this ⊢; omega) ?_; intro v2 w2 hown2 hgrow2 hnil2; have H2 := Lib.hid (And.intro hown2 hgrow2); clear hown2 hgrow2 hnil2 hq; refine hKx _ _ ?_; clear hKx Kx)
          | (rename_i Kx hKx; refine step_append_own _ (by rfl) _ _ _ (by rfl) base 86 i0 _ 7 64 Tryz.underlying74 HI.out.1 HI.out.2.1 HI.out.2.2.1 HI.out.2.2.2 rfl (by omega) (.slice (some ⟨g, 0, none⟩) j j) j (flatG itC (S.take j)) (by rfl) (((ownG_cut itC_len HO8.out j hj).alloc _).drew) ⟨w8.heap.size, 0, none⟩ 1 1 (itC x) (by rfl) (by rfl) (new1Id w8 86 x) (itC_one x) (by unfold maxLen; omega) (by omega) (by simp; omega) ?_; intro v1 w1 hown1 hgrow1 hnil1; have H1 := Lib.hid (And.intro hown1 hgrow1); clear hown1 hgrow1 hnil1; refine hKx _ _ ?_; clear hKx Kx)
          | fail)
        clear s0 s1 s2 s3 s4 s5 s6
        have hSj : S.length - j = 0 := by omega
        obtain ⟨HO2, d2⟩ := after18G hj (by omega) d8 (v0 := .slice (some ⟨g, 0, none⟩) j j) (fun k hk => by cases hk; exact hg1) H1.out.1 H1.out.2 (by rw [hSj, HDr.out]; exact H2.out.1) H2.out.2 rfl rfl rfl rfl
        rw [← HP.out] at HO2
        have HO2 := Lib.hid HO2
        have KK := Lib.hid (KM.out.trans ((K86.below ((aBelow w8 _).drew)).trans ((K86.own (((ownG_cut itC_len HO8.out j hj).alloc _).drew) H1.out.2).trans (K86.own H1.out.1 H2.out.2))))
        clear H1 H2 HO8 KM KX
        go_wp2_with fail
        go_ret
        exact ⟨⟨_, rfl, HO2.out⟩, d2, KK.out⟩
      · clear HDr
        go_wp2_with fail
        go_quiet (fail)
        generalize nq = n1
        go_wp2_with fail
        go_quiet (fail)
        go_wp2_with (first | (at_builtin; refine wpList_append_own _ rfl _ _ 74 rfl wr.heap.size 86 i0 (.agg #[.int .i64 0, .string ⟨#[]⟩, .int .i64 0, .int .i64 0, .bool false, .int .i64 0, .int .i64 0]) 7 64 Tryz.underlying74 HI.out.1 HI.out.2.1 HI.out.2.2.1 HI.out.2.2.2 rfl (by decide) _ _ _ rfl (World.ownsRow_made (wr.drewN _) #[] 0 (Nat.le_refl _) (Nat.zero_le _) (by simp)) ⟨g, j * 7, none⟩ (S.length - j) _ (flatG itC (S.drop j)) rfl (by rw [flatG_len itC_len, List.length_drop]) (dropG_news itC_len (by decide) HLS.out hg2 j _ _) (flatG_cells1 itC_one _) (by unfold maxLen; omega) (by omega) (by simp) ?_; intro v8 w8 hown8 hgrow8 hnil8))
        obtain ⟨h8, cap8, rfl, hh1, hh2, hL8, HO8, n8⟩ := after17G itC_len HO.out hg2 hown8 hgrow8 (fun e => by have := (hnil8.1 e).1; cases this)
        have hS8 := X.out.on n8
        have HO8 := Lib.hid HO8
        have HL8 := Lib.hid hL8
        have d8 := hd.trans (n8.mono hz)
        have hd8 := n8.size
        have KM := Lib.hid (KX.out.trans (K86.below n8))
        clear hown8 hgrow8 hnil8 hL8 n8 HLS HO X
        go_wp2_with fail
        obtain ⟨s0, s1, s2, s3, s4, s5, s6⟩ := hS8
        go_region_law (first
          | (rename_i Kx hKx; have hq := H1; refine step_append_own _ (by rfl) _ _ _ (by rfl) base 86 i0 _ 7 64 Tryz.underlying74 HI.out.1 HI.out.2.1 HI.out.2.2.1 HI.out.2.2.2 rfl (by omega) v1 (j + 1) (flatG itC (S.take j) ++ itC x) (by rfl) H1.out.1 ⟨h8, 0, none⟩ (S.length - j) cap8 (flatG itC (S.drop j)) (by rfl) (by rw [flatG_len itC_len, List.length_drop]) (newsG_far itC_len (by decide) HL8.out hh2 H1.out.2 (by simp [Value.ownBlock]; omega)) (flatG_cells1 itC_one _) (by unfold maxLen; omega) (by omega) (by have := H1.out.2.size; simp at this ⊢; omega) ?_; intro v2 w2 hown2 hgrow2 hnil2; have H2 := Lib.hid (And.intro hown2 hgrow2); clear hown2 hgrow2 hnil2 hq; refine hKx _ _ ?_; clear hKx Kx)
          | (rename_i Kx hKx; refine step_append_own _ (by rfl) _ _ _ (by rfl) base 86 i0 _ 7 64 Tryz.underlying74 HI.out.1 HI.out.2.1 HI.out.2.2.1 HI.out.2.2.2 rfl (by omega) (.slice (some ⟨g, 0, none⟩) j cap) j (flatG itC (S.take j)) (by rfl) (((ownG_cut itC_len HO8.out j hj).alloc _).drew) ⟨w8.heap.size, 0, none⟩ 1 1 (itC x) (by rfl) (by rfl) (new1Id w8 86 x) (itC_one x) (by unfold maxLen; omega) (by omega) (by simp; omega) ?_; intro v1 w1 hown1 hgrow1 hnil1; have H1 := Lib.hid (And.intro hown1 hgrow1); clear hown1 hgrow1 hnil1; refine hKx _ _ ?_; clear hKx Kx)
          | fail)
        clear s0 s1 s2 s3 s4 s5 s6
        obtain ⟨HO2, d2⟩ := after18G hj (by omega) d8 (v0 := .slice (some ⟨g, 0, none⟩) j cap) (fun k hk => by cases hk; exact hg1) H1.out.1 H1.out.2 H2.out.1 H2.out.2 rfl rfl rfl rfl
        rw [← HP.out] at HO2
        have HO2 := Lib.hid HO2
        have KK := Lib.hid (KM.out.trans ((K86.below ((aBelow w8 _).drew)).trans ((K86.own (((ownG_cut itC_len HO8.out j hj).alloc _).drew) H1.out.2).trans (K86.own H1.out.1 H2.out.2))))
        clear H1 H2 HO8 KM KX
        go_wp2_with fail
        go_ret
        exact ⟨⟨_, rfl, HO2.out⟩, d2, KK.out⟩

set_option maxRecDepth 100000 in
set_option maxHeartbeats 4000000 in
theorem into_none (base : Nat) (x : Item) (w0 w : World) (hb : base ≤ w.heap.size) (hd0 : Below base w0 w) :
    Calls Tryz.prog 54 #[.slice none 0 0, .agg #[.int .i64 x.win, .string x.key, .int .i64 x.c.cnt, .int .i64 x.c.sn, .bool x.c.so, .int .i64 x.c.mn, .int .i64 x.c.mx]] w fun e w' => (∃ v', e = .returned v' ∧ w'.ownsRow base 86 7 v' (putP [] x).length (flatG itC (putP [] x))) ∧ Below base w0 w' ∧ K86 w w' := by
  obtain ⟨i0, hi, hz0, hz1, hz2⟩ := info86
  have HI := Lib.hid (And.intro hi (And.intro hz0 (And.intro hz1 hz2)))
  clear hi hz0 hz1 hz2
  have HP : Hid (putP [] x = ([] : List Item).take 0 ++ x :: ([] : List Item).drop 0) := putP_nil x
  go_enter Tryz.func54, Tryz.ntmps54
  go_wp2_with fail
  have nX := aBelow w (.cells #[.int .i64 x.win, .string x.key, .int .i64 x.c.cnt, .int .i64 x.c.sn, .bool x.c.so, .int .i64 x.c.mn, .int .i64 x.c.mx] 86)
  have X : Hid (IX w.heap.size x.win x.key x.c.cnt x.c.sn x.c.so x.c.mn x.c.mx (w.alloc (.cells #[.int .i64 x.win, .string x.key, .int .i64 x.c.cnt, .int .i64 x.c.sn, .bool x.c.so, .int .i64 x.c.mn, .int .i64 x.c.mx] 86))) := by
    refine ⟨?_, ?_, ?_, ?_, ?_, ?_, ?_⟩ <;> simp
  have hd := hd0.trans (nX.mono hb)
  have KX := Lib.hid (K86.below nX)
  have hz : base ≤ (w.alloc (.cells #[.int .i64 x.win, .string x.key, .int .i64 x.c.cnt, .int .i64 x.c.sn, .bool x.c.so, .int .i64 x.c.mn, .int .i64 x.c.mx] 86)).heap.size := by simp; omega
  clear nX hd0
  generalize w.alloc (.cells #[.int .i64 x.win, .string x.key, .int .i64 x.c.cnt, .int .i64 x.c.sn, .bool x.c.so, .int .i64 x.c.mn, .int .i64 x.c.mx] 86) = wr at *
  refine wp_loop_rounds 1 ?_
  rw [rounds_succ]
  go_wp2_with fail
  go_quiet (fail)
  generalize nq = n1
  go_wp2_with fail
  go_quiet (fail)
  go_wp2_with fail
  have nA : Below wr.heap.size wr ((wr.drewN (n1 + nq)).alloc (Obj.cells #[] 86)) := (below_drewN (Below.refl _ _) (n1 + nq)).alloc (Nat.le_refl _) _
  have hS8 := X.out.on nA
  have d8 := hd.trans (nA.mono hz)
  have KM := Lib.hid (KX.out.trans (K86.below nA))
  have hw8 : wr.heap.size < ((wr.drewN (n1 + nq)).alloc (Obj.cells #[] 86)).heap.size := by simp
  clear nA X
  generalize (wr.drewN (n1 + nq)).alloc (Obj.cells #[] 86) = w8 at *
  have hd8 := d8.size
  obtain ⟨s0, s1, s2, s3, s4, s5, s6⟩ := hS8
  go_region_law (first
    | (rename_i Kx hKx; have hq := H1; refine step_append_own _ (by rfl) _ _ _ (by rfl) base 86 i0 _ 7 64 Tryz.underlying74 HI.out.1 HI.out.2.1 HI.out.2.2.1 HI.out.2.2.2 rfl (by omega) v1 (0 + 1) (flatG itC ([]) ++ itC x) (by rfl) H1.out.1 ⟨wr.heap.size, 0, none⟩ 0 0 [] (by rfl) (by rfl) (fun i u hu => by simp at hu) (fun u hu => by cases hu) (by unfold maxLen; omega) (by omega) (by have := H1.out.2.size; simp at this ⊢; omega) ?_; intro v2 w2 hown2 hgrow2 hnil2; have H2 := Lib.hid (And.intro hown2 hgrow2); clear hown2 hgrow2 hnil2 hq; refine hKx _ _ ?_; clear hKx Kx)
    | (rename_i Kx hKx; refine step_append_own _ (by rfl) _ _ _ (by rfl) base 86 i0 _ 7 64 Tryz.underlying74 HI.out.1 HI.out.2.1 HI.out.2.2.1 HI.out.2.2.2 rfl (by omega) (.slice none 0 0) 0 [] (by rfl) (World.ownsRow_nil _ _ _ _) ⟨w8.heap.size, 0, none⟩ 1 1 (itC x) (by rfl) (by rfl) (new1Id w8 86 x) (itC_one x) (by unfold maxLen; omega) (by omega) (by simp; omega) ?_; intro v1 w1 hown1 hgrow1 hnil1; have H1 := Lib.hid (And.intro hown1 hgrow1); clear hown1 hgrow1 hnil1; refine hKx _ _ ?_; clear hKx Kx)
    | fail)
  clear s0 s1 s2 s3 s4 s5 s6
  obtain ⟨HO2, d2⟩ := after18G (S := []) (j := 0) (x := x) (Nat.le_refl _) (by omega) d8 (v0 := .slice none 0 0) (fun k hk => by cases hk) H1.out.1 H1.out.2 H2.out.1 H2.out.2 rfl rfl rfl rfl
  rw [← HP.out] at HO2
  have HO2 := Lib.hid HO2
  have KK := Lib.hid (KM.out.trans ((K86.below ((aBelow w8 _).drew)).trans ((K86.own (World.ownsRow_nil _ base 86 7) H1.out.2).trans (K86.own H1.out.1 H2.out.2))))
  clear H1 H2 KM KX
  go_wp2_with fail
  go_ret
  exact ⟨⟨_, rfl, HO2.out⟩, d2, KK.out⟩
theorem into_any (base : Nat) (v : Value) (S : List Item) (x : Item) (w0 w : World) (hb : base ≤ w.heap.size) (hd : Below base w0 w) (hO : w.ownsRow base 86 7 v S.length (flatG itC S)) (hv : S = [] → v = .slice none 0 0) (hn : S.length ≤ 1000) (hc : ∀ p ∈ S, Cl.okC p.c) (hx : Cl.okC x.c) :
    Calls Tryz.prog 54 #[v, .agg #[.int .i64 x.win, .string x.key, .int .i64 x.c.cnt, .int .i64 x.c.sn, .bool x.c.so, .int .i64 x.c.mn, .int .i64 x.c.mx]] w fun e w' => (∃ v', e = .returned v' ∧ w'.ownsRow base 86 7 v' (putP S x).length (flatG itC (putP S x))) ∧ Below base w0 w' ∧ K86 w w' := by
  rcases Nat.eq_zero_or_pos S.length with hs0 | hs0
  · have e : S = [] := List.length_eq_zero_iff.1 hs0
    subst e
    rw [hv rfl]
    exact into_none base x w0 w hb hd
  · obtain ⟨g, cap, hv, hg1, hg2, hcap⟩ := ownG_block hO hs0
    subst hv
    exact into_some base g cap S x w0 w hb hd hO hg1 hg2 hcap hn hc hx

end Go.Proofs.YtidkpalckafgkaaGreatDoor.Rw
namespace Go.Proofs.YtidkpalckafgkaaGreatDoor.Rw
open Go Go.RowKit Go.Sort Go.Lib Tg Pk Ky Qy

theorem putP_ne (l : List Item) (x : Item) : ¬ putP l x = [] := by
  cases l with
  | nil => rw [putP_nil]; simp
  | cons y r =>
    rw [putP]
    split
    · simp
    · split <;> simp
theorem mergeP_take (q : Query) (S : List Item) (k : Nat) (hk : k < S.length) : mergeP q (S.take (k + 1)) = if asked q S[k] then putP (mergeP q (S.take k)) (partOf q S[k]) else mergeP q (S.take k) := by
  rw [List.take_succ_eq_append_getElem hk, mergeP_snoc]

theorem cj_on {q0 b p kb : Nat} {g : Int} {n y2 k1 : ByteArray} {vm vl vk : Value} {c1 : Int} {wa w1 w2 : World} (h : w1.cell? ⟨q0, 0, none⟩ = some (.int .i64 g) ∧ w1.cell? ⟨q0, 1, none⟩ = some (.string n) ∧ w1.cell? ⟨q0, 2, none⟩ = some vm ∧ w1.cell? ⟨q0, 3, none⟩ = some vl ∧ w1.cell? ⟨b, p + 1, none⟩ = some (.string y2) ∧ w1.cell? ⟨b, p + 2, none⟩ = some (.int .i64 c1) ∧ w1.cell? ⟨kb, 0, none⟩ = some (.string k1) ∧ w1.cell? ⟨kb, 1, none⟩ = some vk ∧ Below wa.heap.size wa w1) (d : Below w1.heap.size w1 w2) : w2.cell? ⟨q0, 0, none⟩ = some (.int .i64 g) ∧ w2.cell? ⟨q0, 1, none⟩ = some (.string n) ∧ w2.cell? ⟨q0, 2, none⟩ = some vm ∧ w2.cell? ⟨q0, 3, none⟩ = some vl ∧ w2.cell? ⟨b, p + 1, none⟩ = some (.string y2) ∧ w2.cell? ⟨b, p + 2, none⟩ = some (.int .i64 c1) ∧ w2.cell? ⟨kb, 0, none⟩ = some (.string k1) ∧ w2.cell? ⟨kb, 1, none⟩ = some vk ∧ Below wa.heap.size wa w2 := by
  obtain ⟨a0, a1, a2, a3, a4, a5, a6, a7, a8⟩ := h
  have e := (Keeps.refl w1).on d
  exact ⟨e.2 _ _ a0, e.2 _ _ a1, e.2 _ _ a2, e.2 _ _ a3, e.2 _ _ a4, e.2 _ _ a5, e.2 _ _ a6, e.2 _ _ a7, a8.trans (d.mono a8.size)⟩
theorem ck_on {q0 b p kb : Nat} {g : Int} {n k1 : ByteArray} {vm vl vk : Value} {y1 c1 c2 : Int} {c3 : Bool} {c4 c5 : Int} {w1 w2 : World} (h : w1.cell? ⟨q0, 0, none⟩ = some (.int .i64 g) ∧ w1.cell? ⟨q0, 1, none⟩ = some (.string n) ∧ w1.cell? ⟨q0, 2, none⟩ = some vm ∧ w1.cell? ⟨q0, 3, none⟩ = some vl ∧ w1.cell? ⟨b, p, none⟩ = some (.int .i64 y1) ∧ w1.cell? ⟨b, p + 2, none⟩ = some (.int .i64 c1) ∧ w1.cell? ⟨b, p + 2 + 1, none⟩ = some (.int .i64 c2) ∧ w1.cell? ⟨b, p + 2 + 2, none⟩ = some (.bool c3) ∧ w1.cell? ⟨b, p + 2 + 3, none⟩ = some (.int .i64 c4) ∧ w1.cell? ⟨b, p + 2 + 4, none⟩ = some (.int .i64 c5) ∧ w1.cell? ⟨kb, 0, none⟩ = some (.string k1) ∧ w1.cell? ⟨kb, 1, none⟩ = some vk) (d : Keeps w1 w2) : w2.cell? ⟨q0, 0, none⟩ = some (.int .i64 g) ∧ w2.cell? ⟨q0, 1, none⟩ = some (.string n) ∧ w2.cell? ⟨q0, 2, none⟩ = some vm ∧ w2.cell? ⟨q0, 3, none⟩ = some vl ∧ w2.cell? ⟨b, p, none⟩ = some (.int .i64 y1) ∧ w2.cell? ⟨b, p + 2, none⟩ = some (.int .i64 c1) ∧ w2.cell? ⟨b, p + 2 + 1, none⟩ = some (.int .i64 c2) ∧ w2.cell? ⟨b, p + 2 + 2, none⟩ = some (.bool c3) ∧ w2.cell? ⟨b, p + 2 + 3, none⟩ = some (.int .i64 c4) ∧ w2.cell? ⟨b, p + 2 + 4, none⟩ = some (.int .i64 c5) ∧ w2.cell? ⟨kb, 0, none⟩ = some (.string k1) ∧ w2.cell? ⟨kb, 1, none⟩ = some vk := by
  obtain ⟨a0, a1, a2, a3, a4, a5, a6, a7, a8, a9, b0, b1⟩ := h
  exact ⟨d.2 _ _ a0, d.2 _ _ a1, d.2 _ _ a2, d.2 _ _ a3, d.2 _ _ a4, d.2 _ _ a5, d.2 _ _ a6, d.2 _ _ a7, d.2 _ _ a8, d.2 _ _ a9, d.2 _ _ b0, d.2 _ _ b1⟩
theorem ck_into {q0 b p kb : Nat} {g : Int} {n k1 : ByteArray} {vm vl vk : Value} {y1 c1 c2 : Int} {c3 : Bool} {c4 c5 : Int} {w0 w1 w2 : World} (h : w1.cell? ⟨q0, 0, none⟩ = some (.int .i64 g) ∧ w1.cell? ⟨q0, 1, none⟩ = some (.string n) ∧ w1.cell? ⟨q0, 2, none⟩ = some vm ∧ w1.cell? ⟨q0, 3, none⟩ = some vl ∧ w1.cell? ⟨b, p, none⟩ = some (.int .i64 y1) ∧ w1.cell? ⟨b, p + 2, none⟩ = some (.int .i64 c1) ∧ w1.cell? ⟨b, p + 2 + 1, none⟩ = some (.int .i64 c2) ∧ w1.cell? ⟨b, p + 2 + 2, none⟩ = some (.bool c3) ∧ w1.cell? ⟨b, p + 2 + 3, none⟩ = some (.int .i64 c4) ∧ w1.cell? ⟨b, p + 2 + 4, none⟩ = some (.int .i64 c5) ∧ w1.cell? ⟨kb, 0, none⟩ = some (.string k1) ∧ w1.cell? ⟨kb, 1, none⟩ = some vk) (hq : q0 < w0.heap.size) (hb : b < w0.heap.size) (d1 : Below w0.heap.size w0 w1) (d2 : Below w0.heap.size w0 w2) (k : K86 w1 w2) (hk : ∀ cur, w1.heap[kb]? ≠ some (.cells cur 86 (0, 0))) : w2.cell? ⟨q0, 0, none⟩ = some (.int .i64 g) ∧ w2.cell? ⟨q0, 1, none⟩ = some (.string n) ∧ w2.cell? ⟨q0, 2, none⟩ = some vm ∧ w2.cell? ⟨q0, 3, none⟩ = some vl ∧ w2.cell? ⟨b, p, none⟩ = some (.int .i64 y1) ∧ w2.cell? ⟨b, p + 2, none⟩ = some (.int .i64 c1) ∧ w2.cell? ⟨b, p + 2 + 1, none⟩ = some (.int .i64 c2) ∧ w2.cell? ⟨b, p + 2 + 2, none⟩ = some (.bool c3) ∧ w2.cell? ⟨b, p + 2 + 3, none⟩ = some (.int .i64 c4) ∧ w2.cell? ⟨b, p + 2 + 4, none⟩ = some (.int .i64 c5) ∧ w2.cell? ⟨kb, 0, none⟩ = some (.string k1) ∧ w2.cell? ⟨kb, 1, none⟩ = some vk := by
  obtain ⟨a0, a1, a2, a3, a4, a5, a6, a7, a8, a9, b0, b1⟩ := h
  have e : ∀ x o v, x < w0.heap.size → w1.cell? ⟨x, o, none⟩ = some v → w2.cell? ⟨x, o, none⟩ = some v := fun x o v hx hv => by
    rw [d2.cell (p := ⟨x, o, none⟩) hx, ← d1.cell (p := ⟨x, o, none⟩) hx]; exact hv
  exact ⟨e _ _ _ hq a0, e _ _ _ hq a1, e _ _ _ hq a2, e _ _ _ hq a3, e _ _ _ hb a4, e _ _ _ hb a5, e _ _ _ hb a6, e _ _ _ hb a7, e _ _ _ hb a8, e _ _ _ hb a9, k.cell hk b0, k.cell hk b1⟩
theorem co_on {b p q0 : Nat} {y1 : Int} {y2 : ByteArray} {c1 c2 : Int} {c3 : Bool} {c4 c5 g : Int} {w1 w2 : World} (h : w1.cell? ⟨b, p, none⟩ = some (.int .i64 y1) ∧ w1.cell? ⟨b, p + 1, none⟩ = some (.string y2) ∧ w1.cell? ⟨b, p + 2, none⟩ = some (.int .i64 c1) ∧ w1.cell? ⟨b, p + 2 + 1, none⟩ = some (.int .i64 c2) ∧ w1.cell? ⟨b, p + 2 + 2, none⟩ = some (.bool c3) ∧ w1.cell? ⟨b, p + 2 + 3, none⟩ = some (.int .i64 c4) ∧ w1.cell? ⟨b, p + 2 + 4, none⟩ = some (.int .i64 c5) ∧ w1.cell? ⟨q0, 0, none⟩ = some (.int .i64 g)) (d : Keeps w1 w2) : w2.cell? ⟨b, p, none⟩ = some (.int .i64 y1) ∧ w2.cell? ⟨b, p + 1, none⟩ = some (.string y2) ∧ w2.cell? ⟨b, p + 2, none⟩ = some (.int .i64 c1) ∧ w2.cell? ⟨b, p + 2 + 1, none⟩ = some (.int .i64 c2) ∧ w2.cell? ⟨b, p + 2 + 2, none⟩ = some (.bool c3) ∧ w2.cell? ⟨b, p + 2 + 3, none⟩ = some (.int .i64 c4) ∧ w2.cell? ⟨b, p + 2 + 4, none⟩ = some (.int .i64 c5) ∧ w2.cell? ⟨q0, 0, none⟩ = some (.int .i64 g) := by
  obtain ⟨a0, a1, a2, a3, a4, a5, a6, a7⟩ := h
  exact ⟨d.2 _ _ a0, d.2 _ _ a1, d.2 _ _ a2, d.2 _ _ a3, d.2 _ _ a4, d.2 _ _ a5, d.2 _ _ a6, d.2 _ _ a7⟩
theorem co_far {b p q0 : Nat} {y1 : Int} {y2 : ByteArray} {c1 c2 : Int} {c3 : Bool} {c4 c5 g : Int} {w1 w2 : World} {row : Option Nat} (h : w1.cell? ⟨b, p, none⟩ = some (.int .i64 y1) ∧ w1.cell? ⟨b, p + 1, none⟩ = some (.string y2) ∧ w1.cell? ⟨b, p + 2, none⟩ = some (.int .i64 c1) ∧ w1.cell? ⟨b, p + 2 + 1, none⟩ = some (.int .i64 c2) ∧ w1.cell? ⟨b, p + 2 + 2, none⟩ = some (.bool c3) ∧ w1.cell? ⟨b, p + 2 + 3, none⟩ = some (.int .i64 c4) ∧ w1.cell? ⟨b, p + 2 + 4, none⟩ = some (.int .i64 c5) ∧ w1.cell? ⟨q0, 0, none⟩ = some (.int .i64 g)) (d : w1.grownBy w2 row) (hb : some b ≠ row) (hq : some q0 ≠ row) : w2.cell? ⟨b, p, none⟩ = some (.int .i64 y1) ∧ w2.cell? ⟨b, p + 1, none⟩ = some (.string y2) ∧ w2.cell? ⟨b, p + 2, none⟩ = some (.int .i64 c1) ∧ w2.cell? ⟨b, p + 2 + 1, none⟩ = some (.int .i64 c2) ∧ w2.cell? ⟨b, p + 2 + 2, none⟩ = some (.bool c3) ∧ w2.cell? ⟨b, p + 2 + 3, none⟩ = some (.int .i64 c4) ∧ w2.cell? ⟨b, p + 2 + 4, none⟩ = some (.int .i64 c5) ∧ w2.cell? ⟨q0, 0, none⟩ = some (.int .i64 g) := by
  obtain ⟨a0, a1, a2, a3, a4, a5, a6, a7⟩ := h
  have e : ∀ x o v, some x ≠ row → w1.cell? ⟨x, o, none⟩ = some v → w2.cell? ⟨x, o, none⟩ = some v := fun x o v hx hv => by
    rw [World.cell?_of_block (a := ⟨x, o, none⟩) (d.block x (World.block_lt_of_cell? _ _ hv) hx)]; exact hv
  exact ⟨e _ _ _ hb a0, e _ _ _ hb a1, e _ _ _ hb a2, e _ _ _ hb a3, e _ _ _ hb a4, e _ _ _ hb a5, e _ _ _ hb a6, e _ _ _ hq a7⟩
set_option maxRecDepth 100000 in
set_option maxHeartbeats 40000000 in
theorem refAnswer_t (v1 v2 : Value) (q : Query) (l : List Item) (w : World) (h1 : QRow w v1 q) (h2 : IRow w v2 l)
    (HR0 : ∀ W, Below w.heap.size w W → Calls Tryz.prog 49 #[v1] W fun e w' => e = .returned (.bool true) ∧ Below W.heap.size W w')
    (hm : q.2.2.1.length ≤ 1000000) (hzm : ∀ x ∈ q.2.2.1, x.2.1.size ≤ 281474976710656 ∧ x.2.2.size ≤ 281474976710656) (hb : q.2.2.2.length ≤ 1000000) (hn : l.length ≤ 1000) (hs : ∀ i ∈ l, i.key.size ≤ 900) (ho : ∀ i ∈ l, okI i) :
    Calls Tryz.prog 24 #[v1, v2] w fun e w' => (∃ v', e = .returned v' ∧ RRow w' v' ((mergeP q (sortK l)).map (rowOf q.1))) ∧ Below w.heap.size w w' := by
  obtain ⟨qa, qc, qb, qd, rfl, -, -⟩ := h1.open
  have HSO := Lib.hid (fun W (d : Below w.heap.size w W) => sorted_any v2 l W (h2.on d) hn)
  have HS := Lib.hid (fun i (hi : i ∈ sortK l) => hs i ((sortK_perm l).mem_iff.1 hi))
  have HOK := Lib.hid (fun i (hi : i ∈ sortK l) => ho i ((sortK_perm l).mem_iff.1 hi))
  have hlen : (sortK l).length ≤ 1000 := by rw [sortK_len]; exact hn
  have HQ := Lib.hid h1
  have HR1 := Lib.hid HR0
  have HZM := Lib.hid hzm
  clear HR0 hs ho h1 hzm
  obtain ⟨ia, ic, rfl, -, -⟩ := h2
  obtain ⟨M, HM⟩ : ∃ M : List Item → List Item, Hid (∀ L, mergeP q L = M L) := ⟨_, fun _ => rfl⟩
  rw [HM.out]
  have HMK : Hid (∀ (S : List Item) (k : Nat) (hk : k < S.length), M (S.take (k + 1)) = if asked q S[k] then putP (M (S.take k)) (partOf q S[k]) else M (S.take k)) := fun S k hk => by rw [← HM.out, ← HM.out]; exact mergeP_take q S k hk
  have HML : Hid (∀ L : List Item, (M L).length ≤ L.length) := fun L => by rw [← HM.out]; exact mergeP_len q L
  have HMO : Hid (∀ L : List Item, (∀ i ∈ L, okI i) → ∀ p ∈ M L, Cl.okC p.c) := fun L h p hp => by rw [← HM.out] at hp; exact (mergeP_ok q L h p hp).1.2
  have HM0 : Hid (M [] = []) := by show _ = _; rw [← HM.out]; rfl
  generalize sortK l = S at *
  obtain ⟨g, n, m, by'⟩ := q
  simp only at *
  go_enter Tryz.func24, Tryz.ntmps24
  go_wp2_with fail
  have n0 := aBelow w (.cells #[.int .i64 g, .string n, .slice qa m.length qc, .slice qb by'.length qd] 39)
  have X0 : QX w.heap.size g n (.slice qa m.length qc) (.slice qb by'.length qd) (w.alloc (.cells #[.int .i64 g, .string n, .slice qa m.length qc, .slice qb by'.length qd] 39)) := by
    refine ⟨?_, ?_, ?_, ?_⟩ <;> simp
  generalize (w.alloc (.cells #[.int .i64 g, .string n, .slice qa m.length qc, .slice qb by'.length qd] 39)) = w0 at *
  refine (HR1.out w0 n0).mono ?_
  rintro e w1 ⟨rfl, n1⟩
  have d1 := n0.trans (n1.mono n0.size)
  have X1 := X0.keep ((Keeps.refl w0).on n1)
  clear n0 n1 X0 HR1
  go_wp2_with fail
  refine (HSO.out w1 d1).mono ?_
  rintro e w2 ⟨⟨vs, rfl, hvs⟩, n2⟩
  obtain ⟨sa, sc, rfl, hsc, hsl⟩ := hvs
  have HL := Lib.hid hsl
  have X2 := Lib.hid (X1.keep ((Keeps.refl w1).on n2))
  have d2 := d1.trans (n2.mono d1.size)
  have hq2 := World.block_lt_of_cell? _ _ X2.out.1
  clear hsl X1 n2 d1 HSO
  go_wp2_with fail
  go_loopw [5, 7] (fun pv iv wr => ∃ k : Nat, k ≤ S.length ∧ iv = .int .i64 k ∧ (M (S.take k) = [] → pv = .slice none 0 0) ∧ Hid (wr.ownsRow w2.heap.size 86 7 pv (M (S.take k)).length (flatG itC (M (S.take k)))) ∧ Hid (Below w2.heap.size w2 wr)) (fun _ i _ => S.length - (intOf i).toNat)
  case atStart => exact ⟨0, Nat.zero_le _, rfl, fun _ => rfl, by rw [List.take_zero, HM0.out]; exact ownG_nil _ _ _, Below.refl _ _⟩
  case round =>
    obtain ⟨k, hk, rfl, hnil, HP, HD⟩ := hrel
    by_cases hlt : k < S.length
    · by_cases he : ¬ (kparse (kl S[k])).2 = 0
      · unfold kl at he
        obtain ⟨b, o, rfl, hb1, hL⟩ := HL.out (ne_of_lt hlt)
        obtain ⟨y0, y1, y2, y3, y4, y5, y6⟩ := i_at (hL.on hb1 HD.out) k hlt
        have i1 : (k : Int) < (S.length : Int) := by omega
        have i2 : (0 : Int) ≤ (k : Int) := by omega
        have HKP := Lib.hid (fun W => refKparse_any (S[k]).key W (HS.out _ (List.getElem_mem hlt)))
        have HIT := Lib.hid (fun W (d : Below w2.heap.size w2 W) => i_at (hL.on hb1 d) k hlt)
        have HNX := Lib.hid (HMK.out S k hlt)
        have HYO := Lib.hid (HOK.out _ (List.getElem_mem hlt))
        have ha : asked (g, n, m, by') S[k] = false := asked_err he
        rw [ha, if_neg (by simp)] at HNX
        clear ha
        generalize S[k] = y at *
        generalize hKP : kparse y.key.data.toList = R at *
        obtain ⟨⟨k1, k2⟩, E⟩ := R
        simp only at *
        go_wp2_with fail
        refine (HKP.out _).mono ?_
        rintro e w3 ⟨⟨kv, rfl, hkv⟩, n3⟩
        obtain ⟨ka, kc, rfl, hkr⟩ := hkv.open
        have n4 := aBelow w3 (.cells #[.string k1, .slice ka k2.length kc] 78)
        have D4 : Below w2.heap.size w2 (w3.alloc (.cells #[.string k1, .slice ka k2.length kc] 78)) := (HD.out.trans (n3.mono HD.out.size)).trans (n4.mono (Nat.le_trans HD.out.size n3.size))
        have HP4 := Lib.hid (own_on (own_on HP.out n3) n4)
        have HKR := Lib.hid (hkv.on n4)
        clear y0 y1 y2 y3 y4 y5 y6 hkr hkv hL
        obtain ⟨y0, y1, y2, y3, y4, y5, y6⟩ := HIT.out _ D4
        obtain ⟨q0, q1, q2, q3⟩ := X2.out.keep ((Keeps.refl w2).on D4)
        have kb0 : (w3.alloc (.cells #[.string k1, .slice ka k2.length kc] 78)).cell? ⟨w3.heap.size, 0, none⟩ = some (.string k1) := by simp
        have kb1 : (w3.alloc (.cells #[.string k1, .slice ka k2.length kc] 78)).cell? ⟨w3.heap.size, 1, none⟩ = some (.slice ka k2.length kc) := by simp
        clear n3 n4 HKP
        go_wp2_with fail
        have z1 : (E != 0) = true := by simp; exact he
        have z2 : (E == 0) = false := by simp; exact he
        clear he hKP
        go_quiet (fail)
        go_wp2_with fail
        have D5 := Lib.hid (below_drewN D4 nq)
        have HP5 : Hid ((((w3.alloc (.cells #[.string k1, .slice ka k2.length kc] 78))).drewN nq).ownsRow w2.heap.size 86 7 u5 (M (S.take k)).length (flatG itC (M (S.take k)))) := HP4.out
        exact ⟨⟨k + 1, by omega, by go_num, (by rw [HNX.out]; exact hnil), (by rw [HNX.out]; exact HP5.out), D5⟩, by simp [intOf]; omega⟩
      · have he : (kparse (kl S[k])).2 = 0 := Classical.not_not.1 he
        cases ht : eqB (ktextB (kparse (S[k]).key.data.toList).1) (S[k]).key
        · obtain ⟨b, o, rfl, hb1, hL⟩ := HL.out (ne_of_lt hlt)
          obtain ⟨y0, y1, y2, y3, y4, y5, y6⟩ := i_at (hL.on hb1 HD.out) k hlt
          have i1 : (k : Int) < (S.length : Int) := by omega
          have i2 : (0 : Int) ≤ (k : Int) := by omega
          have HKP := Lib.hid (fun W => refKparse_any (S[k]).key W (HS.out _ (List.getElem_mem hlt)))
          have HIT := Lib.hid (fun W (d : Below w2.heap.size w2 W) => i_at (hL.on hb1 d) k hlt)
          have HNX := Lib.hid (HMK.out S k hlt)
          have HYO := Lib.hid (HOK.out _ (List.getElem_mem hlt))
          have he2 : (kparse (S[k]).key.data.toList).2 = 0 := he
          have hkb := key_small he2
          have HT := Lib.hid (fun v W (hW : KRow W v (kparse (S[k]).key.data.toList).1) => refKtext_any v (kparse (S[k]).key.data.toList).1 W hW hkb.1 hkb.2.1 hkb.2.2.1 hkb.2.2.2)
          have HBq := beq_ba (ktextB (kparse (S[k]).key.data.toList).1) (S[k]).key
          have ha : asked (g, n, m, by') S[k] = false := asked_text (fun h => by
            have h2 : eqB (ktextB (kparse (S[k]).key.data.toList).1) (S[k]).key = true := (eqB_true _ _).2 (bb_inj (by rw [ktextB_list]; exact h))
            rw [h2] at ht; cases ht)
          rw [ha, if_neg (by simp)] at HNX
          clear ha
          have zt := HBq.trans ht
          generalize ktextB (kparse (S[k]).key.data.toList).1 = KT at *
          clear HBq ht hkb he
          generalize S[k] = y at *
          generalize hKP : kparse y.key.data.toList = R at *
          obtain ⟨⟨k1, k2⟩, E⟩ := R
          simp only at *
          subst he2
          clear hKP
          go_wp2_with fail
          refine (HKP.out _).mono ?_
          rintro e w3 ⟨⟨kv, rfl, hkv⟩, n3⟩
          obtain ⟨ka, kc, rfl, hkr⟩ := hkv.open
          have n4 := aBelow w3 (.cells #[.string k1, .slice ka k2.length kc] 78)
          have D4 : Below w2.heap.size w2 (w3.alloc (.cells #[.string k1, .slice ka k2.length kc] 78)) := (HD.out.trans (n3.mono HD.out.size)).trans (n4.mono (Nat.le_trans HD.out.size n3.size))
          have HP4 := Lib.hid (own_on (own_on HP.out n3) n4)
          have HKR := Lib.hid (hkv.on n4)
          clear y0 y1 y2 y3 y4 y5 y6 hkr hkv hL
          obtain ⟨y0, y1, y2, y3, y4, y5, y6⟩ := HIT.out _ D4
          obtain ⟨q0, q1, q2, q3⟩ := X2.out.keep ((Keeps.refl w2).on D4)
          have kb0 : (w3.alloc (.cells #[.string k1, .slice ka k2.length kc] 78)).cell? ⟨w3.heap.size, 0, none⟩ = some (.string k1) := by simp
          have kb1 : (w3.alloc (.cells #[.string k1, .slice ka k2.length kc] 78)).cell? ⟨w3.heap.size, 1, none⟩ = some (.slice ka k2.length kc) := by simp
          clear n3 n4 HKP
          go_wp2_with fail
          have hS : (w3.alloc (.cells #[.string k1, .slice ka k2.length kc] 78)).drew.cell? ⟨w.heap.size, 0, none⟩ = some (.int .i64 g) ∧ (w3.alloc (.cells #[.string k1, .slice ka k2.length kc] 78)).drew.cell? ⟨w.heap.size, 1, none⟩ = some (.string n) ∧ (w3.alloc (.cells #[.string k1, .slice ka k2.length kc] 78)).drew.cell? ⟨w.heap.size, 2, none⟩ = some (.slice qa m.length qc) ∧ (w3.alloc (.cells #[.string k1, .slice ka k2.length kc] 78)).drew.cell? ⟨w.heap.size, 3, none⟩ = some (.slice qb by'.length qd) ∧ (w3.alloc (.cells #[.string k1, .slice ka k2.length kc] 78)).drew.cell? ⟨b, o + k * 7 + 1, none⟩ = some (.string y.key) ∧ (w3.alloc (.cells #[.string k1, .slice ka k2.length kc] 78)).drew.cell? ⟨b, o + k * 7 + 2, none⟩ = some (.int .i64 y.c.cnt) ∧ (w3.alloc (.cells #[.string k1, .slice ka k2.length kc] 78)).drew.cell? ⟨w3.heap.size, 0, none⟩ = some (.string k1) ∧ (w3.alloc (.cells #[.string k1, .slice ka k2.length kc] 78)).drew.cell? ⟨w3.heap.size, 1, none⟩ = some (.slice ka k2.length kc) ∧ Below (w3.alloc (.cells #[.string k1, .slice ka k2.length kc] 78)).heap.size (w3.alloc (.cells #[.string k1, .slice ka k2.length kc] 78)) (w3.alloc (.cells #[.string k1, .slice ka k2.length kc] 78)).drew := ⟨q0, q1, q2, q3, y1, y2, kb0, kb1, (Below.refl _ _).drew⟩
          have hnk : ∀ cur, (w3.alloc (.cells #[.string k1, .slice ka k2.length kc] 78)).heap[w3.heap.size]? ≠ some (.cells cur 86 (0, 0)) := fun cur h => by
            rw [heap_alloc_new] at h
            cases h
          clear q0 q1 q2 q3 y0 y1 y2 y3 y4 y5 y6 kb0 kb1
          generalize (w3.alloc (.cells #[.string k1, .slice ka k2.length kc] 78)) = wa at *
          clear HMK HML HMO HM0 HOK HS HQ HZM HYO HIT HM hnk
          refine wp_region_held_drew (S := fun w' => w'.cell? ⟨w.heap.size, 0, none⟩ = some (.int .i64 g) ∧ w'.cell? ⟨w.heap.size, 1, none⟩ = some (.string n) ∧ w'.cell? ⟨w.heap.size, 2, none⟩ = some (.slice qa m.length qc) ∧ w'.cell? ⟨w.heap.size, 3, none⟩ = some (.slice qb by'.length qd) ∧ w'.cell? ⟨b, o + k * 7 + 1, none⟩ = some (.string y.key) ∧ w'.cell? ⟨b, o + k * 7 + 2, none⟩ = some (.int .i64 y.c.cnt) ∧ w'.cell? ⟨w3.heap.size, 0, none⟩ = some (.string k1) ∧ w'.cell? ⟨w3.heap.size, 1, none⟩ = some (.slice ka k2.length kc) ∧ Below wa.heap.size wa w') (by kernel_rfl) hS (fun hHeld => ?_)
          refine wpAnyH_take (i := 0) (oi := { dst := some 32, op := Op.move (Operand.tmp 9), type := 32, pos := "ref.go:95", after := #[], guard := none }) (v := ?_) rfl (by kernel_rfl) (by kernel_rfl) (by kernel_rfl) (fun _ _ _ h => h) (Or.inl ⟨by rfl, ?_⟩) hHeld ?_
          rotate_left
          · intro w hSw
            (try dsimp only at hSw)
            go_simp
            (try with_reducible rfl)
          (try simp only [Act.put, List.setIfInBounds_toArray, List.set_cons_zero, List.set_cons_succ])
          refine wpAnyH_take (i := 1) (oi := { dst := some 33, op := Op.binOp BinOp.neq 32 (Operand.tmp 32) (Operand.const (Value.int IntKind.i64 0)) 32, type := 4, pos := "ref.go:95", after := #[{ on := 0, ground := Ground.data }], guard := none }) (v := ?_) rfl (by kernel_rfl) (by kernel_rfl) (by kernel_rfl) (fun _ _ _ h => h) (Or.inl ⟨by rfl, ?_⟩) hHeld ?_
          rotate_left
          · intro w hSw
            (try dsimp only at hSw)
            go_simp
            (try with_reducible rfl)
          (try simp only [Act.put, List.setIfInBounds_toArray, List.set_cons_zero, List.set_cons_succ])
          refine wpAnyH_take (i := 2) (oi := { dst := some 34, op := Op.move (Operand.tmp 33), type := 4, pos := "ref.go:95", after := #[{ on := 1, ground := Ground.data }], guard := none }) (v := ?_) rfl (by kernel_rfl) (by kernel_rfl) (by kernel_rfl) (fun _ _ _ h => h) (Or.inl ⟨by rfl, ?_⟩) hHeld ?_
          rotate_left
          · intro w hSw
            (try dsimp only at hSw)
            go_simp
            (try with_reducible rfl)
          (try simp only [Act.put, List.setIfInBounds_toArray, List.set_cons_zero, List.set_cons_succ])
          refine wpAnyH_take (i := 3) (oi := { dst := some 35, op := Op.load 78 (Operand.tmp 8), type := 78, pos := "ref.go:95", after := #[{ on := 2, ground := Ground.guard }], guard := some (2, false) }) (v := ?_) rfl (by kernel_rfl) (by kernel_rfl) (by kernel_rfl) (fun _ _ _ h => h) (Or.inl ⟨by rfl, ?_⟩) hHeld ?_
          rotate_left
          · intro w hSw
            (try dsimp only at hSw)
            go_simp
            (try with_reducible rfl)
          (try simp only [Act.put, List.setIfInBounds_toArray, List.set_cons_zero, List.set_cons_succ])
          refine wpAnyH_take (i := 5) (oi := { dst := some 37, op := Op.move (Operand.tmp 6), type := 40, pos := "ref.go:95", after := #[{ on := 2, ground := Ground.guard }], guard := some (2, false) }) (v := ?_) rfl (by kernel_rfl) (by kernel_rfl) (by kernel_rfl) (fun _ _ _ h => h) (Or.inl ⟨by rfl, ?_⟩) hHeld ?_
          rotate_left
          · intro w hSw
            (try dsimp only at hSw)
            go_simp
            (try with_reducible rfl)
          (try simp only [Act.put, List.setIfInBounds_toArray, List.set_cons_zero, List.set_cons_succ])
          refine wpAnyH_take (i := 6) (oi := { dst := some 38, op := Op.move (Operand.tmp 7), type := 3, pos := "ref.go:95", after := #[{ on := 2, ground := Ground.guard }], guard := some (2, false) }) (v := ?_) rfl (by kernel_rfl) (by kernel_rfl) (by kernel_rfl) (fun _ _ _ h => h) (Or.inl ⟨by rfl, ?_⟩) hHeld ?_
          rotate_left
          · intro w hSw
            (try dsimp only at hSw)
            go_simp
            (try with_reducible rfl)
          (try simp only [Act.put, List.setIfInBounds_toArray, List.set_cons_zero, List.set_cons_succ])
          refine wpAnyH_take (i := 7) (oi := { dst := some 39, op := Op.indexAddr 40 (Operand.tmp 37) (Operand.tmp 38), type := 0, pos := "ref.go:95", after := #[{ on := 5, ground := Ground.data }, { on := 6, ground := Ground.data }, { on := 2, ground := Ground.guard }], guard := some (2, false) }) (v := ?_) rfl (by kernel_rfl) (by kernel_rfl) (by kernel_rfl) (fun _ _ _ h => h) (Or.inl ⟨by rfl, ?_⟩) hHeld ?_
          rotate_left
          · intro w hSw
            (try dsimp only at hSw)
            go_simp
            (try with_reducible rfl)
          (try simp only [Act.put, List.setIfInBounds_toArray, List.set_cons_zero, List.set_cons_succ])
          refine wpAnyH_take (i := 8) (oi := { dst := some 40, op := Op.fieldAddr 50 (Operand.tmp 39) 1, type := 0, pos := "ref.go:95", after := #[{ on := 7, ground := Ground.data }, { on := 2, ground := Ground.guard }], guard := some (2, false) }) (v := ?_) rfl (by kernel_rfl) (by kernel_rfl) (by kernel_rfl) (fun _ _ _ h => h) (Or.inl ⟨by rfl, ?_⟩) hHeld ?_
          rotate_left
          · intro w hSw
            (try dsimp only at hSw)
            go_simp
            (try with_reducible rfl)
          (try simp only [Act.put, List.setIfInBounds_toArray, List.set_cons_zero, List.set_cons_succ])
          refine wpAnyH_take (i := 9) (oi := { dst := some 41, op := Op.load 9 (Operand.tmp 40), type := 9, pos := "ref.go:95", after := #[{ on := 8, ground := Ground.data }, { on := 2, ground := Ground.guard }], guard := some (2, false) }) (v := ?_) rfl (by kernel_rfl) (by kernel_rfl) (by kernel_rfl) (fun _ _ _ h => h) (Or.inl ⟨by rfl, ?_⟩) hHeld ?_
          rotate_left
          · intro w hSw
            (try dsimp only at hSw)
            go_simp
            (try with_reducible rfl)
          (try simp only [Act.put, List.setIfInBounds_toArray, List.set_cons_zero, List.set_cons_succ])
          refine wpAnyH_ready (rs := [4]) (by kernel_rfl) (by simp) ?_
          refine AllReadyH.cons (o := { dst := some 36, op := Op.call { callee := Callee.value (Operand.func 52), args := #[Operand.tmp 35], argTypes := #[78] }, type := 9, pos := "ref.go:95", after := #[{ on := 3, ground := Ground.data }, { on := 2, ground := Ground.chain }, { on := 2, ground := Ground.guard }], guard := some (2, false) }) rfl (fun K hK => ?_) AllReadyH.nil
          go_simp
          refine (HT.out _ _ (HKR.out.on hS.2.2.2.2.2.2.2.2)).mono ?_
          rintro e w5 ⟨rfl, n5⟩
          have hS1 := cj_on hS n5
          clear hHeld
          go_simp
          refine hK.out _ _ hS1 (fun hHeld => ?_)
          clear hK K
          (try simp only [Act.put, List.setIfInBounds_toArray, List.set_cons_zero, List.set_cons_succ])
          refine wpAnyH_take (i := 10) (oi := { dst := some 42, op := Op.binOp BinOp.neq 9 (Operand.tmp 36) (Operand.tmp 41) 9, type := 4, pos := "ref.go:95", after := #[{ on := 4, ground := Ground.data }, { on := 9, ground := Ground.data }, { on := 2, ground := Ground.guard }], guard := some (2, false) }) (v := ?_) rfl (by kernel_rfl) (by kernel_rfl) (by kernel_rfl) (fun _ _ _ h => h) (Or.inl ⟨by rfl, ?_⟩) hHeld ?_
          rotate_left
          · intro w hSw
            (try dsimp only at hSw)
            go_simp
            (try with_reducible rfl)
          (try simp only [Act.put, List.setIfInBounds_toArray, List.set_cons_zero, List.set_cons_succ])
          refine wpAnyH_take (i := 11) (oi := { dst := some 43, op := Op.pick (Operand.tmp 34) (Operand.const (Value.bool true)) (Operand.tmp 42), type := 4, pos := "ref.go:95", after := #[{ on := 2, ground := Ground.data }, { on := 10, ground := Ground.data }], guard := none }) (v := ?_) rfl (by kernel_rfl) (by kernel_rfl) (by kernel_rfl) (fun _ _ _ h => h) (Or.inl ⟨by rfl, ?_⟩) hHeld ?_
          rotate_left
          · intro w hSw
            (try dsimp only at hSw)
            go_simp
            (try with_reducible rfl)
          (try simp only [Act.put, List.setIfInBounds_toArray, List.set_cons_zero, List.set_cons_succ])
          refine wpAnyH_take (i := 12) (oi := { dst := some 44, op := Op.move (Operand.tmp 43), type := 4, pos := "ref.go:95", after := #[{ on := 11, ground := Ground.data }, { on := 4, ground := Ground.chain }], guard := none }) (v := ?_) rfl (by kernel_rfl) (by kernel_rfl) (by kernel_rfl) (fun _ _ _ h => h) (Or.inl ⟨by rfl, ?_⟩) hHeld ?_
          rotate_left
          · intro w hSw
            (try dsimp only at hSw)
            go_simp
            (try with_reducible rfl)
          (try simp only [Act.put, List.setIfInBounds_toArray, List.set_cons_zero, List.set_cons_succ])
          refine wpAnyH_take (i := 13) (oi := { dst := some 45, op := Op.move (Operand.tmp 6), type := 40, pos := "ref.go:95", after := #[{ on := 12, ground := Ground.guard }], guard := some (12, false) }) (v := undef) rfl (by kernel_rfl) (by kernel_rfl) (by kernel_rfl) (fun _ _ _ h => h) (Or.inr ⟨by rfl, rfl⟩) hHeld ?_
          (try simp only [Act.put, List.setIfInBounds_toArray, List.set_cons_zero, List.set_cons_succ])
          refine wpAnyH_take (i := 14) (oi := { dst := some 46, op := Op.move (Operand.tmp 7), type := 3, pos := "ref.go:95", after := #[{ on := 12, ground := Ground.guard }], guard := some (12, false) }) (v := undef) rfl (by kernel_rfl) (by kernel_rfl) (by kernel_rfl) (fun _ _ _ h => h) (Or.inr ⟨by rfl, rfl⟩) hHeld ?_
          (try simp only [Act.put, List.setIfInBounds_toArray, List.set_cons_zero, List.set_cons_succ])
          refine wpAnyH_take (i := 15) (oi := { dst := some 47, op := Op.indexAddr 40 (Operand.tmp 45) (Operand.tmp 46), type := 0, pos := "ref.go:95", after := #[{ on := 13, ground := Ground.data }, { on := 14, ground := Ground.data }, { on := 12, ground := Ground.guard }], guard := some (12, false) }) (v := undef) rfl (by kernel_rfl) (by kernel_rfl) (by kernel_rfl) (fun _ _ _ h => h) (Or.inr ⟨by rfl, rfl⟩) hHeld ?_
          (try simp only [Act.put, List.setIfInBounds_toArray, List.set_cons_zero, List.set_cons_succ])
          refine wpAnyH_take (i := 16) (oi := { dst := some 48, op := Op.fieldAddr 50 (Operand.tmp 47) 2, type := 0, pos := "ref.go:95", after := #[{ on := 15, ground := Ground.data }, { on := 12, ground := Ground.guard }], guard := some (12, false) }) (v := undef) rfl (by kernel_rfl) (by kernel_rfl) (by kernel_rfl) (fun _ _ _ h => h) (Or.inr ⟨by rfl, rfl⟩) hHeld ?_
          (try simp only [Act.put, List.setIfInBounds_toArray, List.set_cons_zero, List.set_cons_succ])
          refine wpAnyH_take (i := 17) (oi := { dst := some 49, op := Op.fieldAddr 48 (Operand.tmp 48) 0, type := 0, pos := "ref.go:95", after := #[{ on := 16, ground := Ground.data }, { on := 12, ground := Ground.guard }], guard := some (12, false) }) (v := undef) rfl (by kernel_rfl) (by kernel_rfl) (by kernel_rfl) (fun _ _ _ h => h) (Or.inr ⟨by rfl, rfl⟩) hHeld ?_
          (try simp only [Act.put, List.setIfInBounds_toArray, List.set_cons_zero, List.set_cons_succ])
          refine wpAnyH_take (i := 18) (oi := { dst := some 50, op := Op.load 2 (Operand.tmp 49), type := 2, pos := "ref.go:95", after := #[{ on := 17, ground := Ground.data }, { on := 12, ground := Ground.guard }], guard := some (12, false) }) (v := undef) rfl (by kernel_rfl) (by kernel_rfl) (by kernel_rfl) (fun _ _ _ h => h) (Or.inr ⟨by rfl, rfl⟩) hHeld ?_
          (try simp only [Act.put, List.setIfInBounds_toArray, List.set_cons_zero, List.set_cons_succ])
          refine wpAnyH_take (i := 19) (oi := { dst := some 51, op := Op.binOp BinOp.lss 2 (Operand.tmp 50) (Operand.const (Value.int IntKind.i64 1)) 2, type := 4, pos := "ref.go:95", after := #[{ on := 18, ground := Ground.data }, { on := 12, ground := Ground.guard }], guard := some (12, false) }) (v := undef) rfl (by kernel_rfl) (by kernel_rfl) (by kernel_rfl) (fun _ _ _ h => h) (Or.inr ⟨by rfl, rfl⟩) hHeld ?_
          (try simp only [Act.put, List.setIfInBounds_toArray, List.set_cons_zero, List.set_cons_succ])
          refine wpAnyH_take (i := 20) (oi := { dst := some 52, op := Op.pick (Operand.tmp 44) (Operand.const (Value.bool true)) (Operand.tmp 51), type := 4, pos := "ref.go:95", after := #[{ on := 12, ground := Ground.data }, { on := 19, ground := Ground.data }], guard := none }) (v := ?_) rfl (by kernel_rfl) (by kernel_rfl) (by kernel_rfl) (fun _ _ _ h => h) (Or.inl ⟨by rfl, ?_⟩) hHeld ?_
          rotate_left
          · intro w hSw
            (try dsimp only at hSw)
            go_simp
            (try with_reducible rfl)
          (try simp only [Act.put, List.setIfInBounds_toArray, List.set_cons_zero, List.set_cons_succ])
          refine wpAnyH_take (i := 21) (oi := { dst := some 53, op := Op.move (Operand.tmp 52), type := 4, pos := "ref.go:95", after := #[{ on := 20, ground := Ground.data }, { on := 12, ground := Ground.chain }], guard := none }) (v := ?_) rfl (by kernel_rfl) (by kernel_rfl) (by kernel_rfl) (fun _ _ _ h => h) (Or.inl ⟨by rfl, ?_⟩) hHeld ?_
          rotate_left
          · intro w hSw
            (try dsimp only at hSw)
            go_simp
            (try with_reducible rfl)
          (try simp only [Act.put, List.setIfInBounds_toArray, List.set_cons_zero, List.set_cons_succ])
          refine wpAnyH_take (i := 22) (oi := { dst := some 54, op := Op.load 39 (Operand.tmp 2), type := 39, pos := "ref.go:95", after := #[{ on := 21, ground := Ground.guard }], guard := some (21, false) }) (v := undef) rfl (by kernel_rfl) (by kernel_rfl) (by kernel_rfl) (fun _ _ _ h => h) (Or.inr ⟨by rfl, rfl⟩) hHeld ?_
          (try simp only [Act.put, List.setIfInBounds_toArray, List.set_cons_zero, List.set_cons_succ])
          refine wpAnyH_take (i := 23) (oi := { dst := some 55, op := Op.load 78 (Operand.tmp 8), type := 78, pos := "ref.go:95", after := #[{ on := 21, ground := Ground.guard }], guard := some (21, false) }) (v := undef) rfl (by kernel_rfl) (by kernel_rfl) (by kernel_rfl) (fun _ _ _ h => h) (Or.inr ⟨by rfl, rfl⟩) hHeld ?_
          (try simp only [Act.put, List.setIfInBounds_toArray, List.set_cons_zero, List.set_cons_succ])
          refine wpAnyH_take (i := 24) (oi := { dst := some 56, op := Op.call { callee := Callee.value (Operand.func 53), args := #[Operand.tmp 54, Operand.tmp 55], argTypes := #[39, 78] }, type := 4, pos := "ref.go:95", after := #[{ on := 22, ground := Ground.data }, { on := 23, ground := Ground.data }, { on := 21, ground := Ground.chain }, { on := 21, ground := Ground.guard }], guard := some (21, false) }) (v := undef) rfl (by kernel_rfl) (by kernel_rfl) (by kernel_rfl) (fun _ _ _ h => h) (Or.inr ⟨by rfl, rfl⟩) hHeld ?_
          (try simp only [Act.put, List.setIfInBounds_toArray, List.set_cons_zero, List.set_cons_succ])
          refine wpAnyH_take (i := 25) (oi := { dst := some 57, op := Op.unOp UnOp.not 4 (Operand.tmp 56), type := 4, pos := "ref.go:95", after := #[{ on := 24, ground := Ground.data }, { on := 21, ground := Ground.guard }], guard := some (21, false) }) (v := undef) rfl (by kernel_rfl) (by kernel_rfl) (by kernel_rfl) (fun _ _ _ h => h) (Or.inr ⟨by rfl, rfl⟩) hHeld ?_
          (try simp only [Act.put, List.setIfInBounds_toArray, List.set_cons_zero, List.set_cons_succ])
          refine wpAnyH_take (i := 26) (oi := { dst := some 58, op := Op.pick (Operand.tmp 53) (Operand.const (Value.bool true)) (Operand.tmp 57), type := 4, pos := "ref.go:95", after := #[{ on := 21, ground := Ground.data }, { on := 25, ground := Ground.data }], guard := none }) (v := ?_) rfl (by kernel_rfl) (by kernel_rfl) (by kernel_rfl) (fun _ _ _ h => h) (Or.inl ⟨by rfl, ?_⟩) hHeld ?_
          rotate_left
          · intro w hSw
            (try dsimp only at hSw)
            go_simp
            (try with_reducible rfl)
          (try simp only [Act.put, List.setIfInBounds_toArray, List.set_cons_zero, List.set_cons_succ])
          refine wpAnyH_done (by kernel_rfl) ?_ _
          have nz := hS1.2.2.2.2.2.2.2.2
          have D5 := Lib.hid (D4.trans (nz.mono D4.size))
          have HP5 := Lib.hid (own_on HP4.out nz)
          clear hS1 hS nz hHeld
          go_wp2_with fail
          exact ⟨⟨k + 1, by omega, by go_num, (by rw [HNX.out]; exact hnil), (by rw [HNX.out]; exact HP5.out), D5⟩, by simp [intOf]; omega⟩
        · by_cases hcn : (S[k]).c.cnt < 1
          · obtain ⟨b, o, rfl, hb1, hL⟩ := HL.out (ne_of_lt hlt)
            obtain ⟨y0, y1, y2, y3, y4, y5, y6⟩ := i_at (hL.on hb1 HD.out) k hlt
            have i1 : (k : Int) < (S.length : Int) := by omega
            have i2 : (0 : Int) ≤ (k : Int) := by omega
            have HKP := Lib.hid (fun W => refKparse_any (S[k]).key W (HS.out _ (List.getElem_mem hlt)))
            have HIT := Lib.hid (fun W (d : Below w2.heap.size w2 W) => i_at (hL.on hb1 d) k hlt)
            have HNX := Lib.hid (HMK.out S k hlt)
            have HYO := Lib.hid (HOK.out _ (List.getElem_mem hlt))
            have he2 : (kparse (S[k]).key.data.toList).2 = 0 := he
            have hkb := key_small he2
            have HT := Lib.hid (fun v W (hW : KRow W v (kparse (S[k]).key.data.toList).1) => refKtext_any v (kparse (S[k]).key.data.toList).1 W hW hkb.1 hkb.2.1 hkb.2.2.1 hkb.2.2.2)
            have HBq := beq_ba (ktextB (kparse (S[k]).key.data.toList).1) (S[k]).key
            have ha : asked (g, n, m, by') S[k] = false := asked_empty hcn
            rw [ha, if_neg (by simp)] at HNX
            clear ha
            have zc : decide ((S[k]).c.cnt < 1) = true := decide_eq_true hcn
            have zt := HBq.trans ht
            generalize ktextB (kparse (S[k]).key.data.toList).1 = KT at *
            clear HBq ht hkb he
            clear hcn
            generalize S[k] = y at *
            generalize hKP : kparse y.key.data.toList = R at *
            obtain ⟨⟨k1, k2⟩, E⟩ := R
            simp only at *
            subst he2
            clear hKP
            go_wp2_with fail
            refine (HKP.out _).mono ?_
            rintro e w3 ⟨⟨kv, rfl, hkv⟩, n3⟩
            obtain ⟨ka, kc, rfl, hkr⟩ := hkv.open
            have n4 := aBelow w3 (.cells #[.string k1, .slice ka k2.length kc] 78)
            have D4 : Below w2.heap.size w2 (w3.alloc (.cells #[.string k1, .slice ka k2.length kc] 78)) := (HD.out.trans (n3.mono HD.out.size)).trans (n4.mono (Nat.le_trans HD.out.size n3.size))
            have HP4 := Lib.hid (own_on (own_on HP.out n3) n4)
            have HKR := Lib.hid (hkv.on n4)
            clear y0 y1 y2 y3 y4 y5 y6 hkr hkv hL
            obtain ⟨y0, y1, y2, y3, y4, y5, y6⟩ := HIT.out _ D4
            obtain ⟨q0, q1, q2, q3⟩ := X2.out.keep ((Keeps.refl w2).on D4)
            have kb0 : (w3.alloc (.cells #[.string k1, .slice ka k2.length kc] 78)).cell? ⟨w3.heap.size, 0, none⟩ = some (.string k1) := by simp
            have kb1 : (w3.alloc (.cells #[.string k1, .slice ka k2.length kc] 78)).cell? ⟨w3.heap.size, 1, none⟩ = some (.slice ka k2.length kc) := by simp
            clear n3 n4 HKP
            go_wp2_with fail
            have hS : (w3.alloc (.cells #[.string k1, .slice ka k2.length kc] 78)).drew.cell? ⟨w.heap.size, 0, none⟩ = some (.int .i64 g) ∧ (w3.alloc (.cells #[.string k1, .slice ka k2.length kc] 78)).drew.cell? ⟨w.heap.size, 1, none⟩ = some (.string n) ∧ (w3.alloc (.cells #[.string k1, .slice ka k2.length kc] 78)).drew.cell? ⟨w.heap.size, 2, none⟩ = some (.slice qa m.length qc) ∧ (w3.alloc (.cells #[.string k1, .slice ka k2.length kc] 78)).drew.cell? ⟨w.heap.size, 3, none⟩ = some (.slice qb by'.length qd) ∧ (w3.alloc (.cells #[.string k1, .slice ka k2.length kc] 78)).drew.cell? ⟨b, o + k * 7 + 1, none⟩ = some (.string y.key) ∧ (w3.alloc (.cells #[.string k1, .slice ka k2.length kc] 78)).drew.cell? ⟨b, o + k * 7 + 2, none⟩ = some (.int .i64 y.c.cnt) ∧ (w3.alloc (.cells #[.string k1, .slice ka k2.length kc] 78)).drew.cell? ⟨w3.heap.size, 0, none⟩ = some (.string k1) ∧ (w3.alloc (.cells #[.string k1, .slice ka k2.length kc] 78)).drew.cell? ⟨w3.heap.size, 1, none⟩ = some (.slice ka k2.length kc) ∧ Below (w3.alloc (.cells #[.string k1, .slice ka k2.length kc] 78)).heap.size (w3.alloc (.cells #[.string k1, .slice ka k2.length kc] 78)) (w3.alloc (.cells #[.string k1, .slice ka k2.length kc] 78)).drew := ⟨q0, q1, q2, q3, y1, y2, kb0, kb1, (Below.refl _ _).drew⟩
            have hnk : ∀ cur, (w3.alloc (.cells #[.string k1, .slice ka k2.length kc] 78)).heap[w3.heap.size]? ≠ some (.cells cur 86 (0, 0)) := fun cur h => by
              rw [heap_alloc_new] at h
              cases h
            clear q0 q1 q2 q3 y0 y1 y2 y3 y4 y5 y6 kb0 kb1
            generalize (w3.alloc (.cells #[.string k1, .slice ka k2.length kc] 78)) = wa at *
            clear HMK HML HMO HM0 HOK HS HQ HZM HYO HIT HM hnk
            refine wp_region_held_drew (S := fun w' => w'.cell? ⟨w.heap.size, 0, none⟩ = some (.int .i64 g) ∧ w'.cell? ⟨w.heap.size, 1, none⟩ = some (.string n) ∧ w'.cell? ⟨w.heap.size, 2, none⟩ = some (.slice qa m.length qc) ∧ w'.cell? ⟨w.heap.size, 3, none⟩ = some (.slice qb by'.length qd) ∧ w'.cell? ⟨b, o + k * 7 + 1, none⟩ = some (.string y.key) ∧ w'.cell? ⟨b, o + k * 7 + 2, none⟩ = some (.int .i64 y.c.cnt) ∧ w'.cell? ⟨w3.heap.size, 0, none⟩ = some (.string k1) ∧ w'.cell? ⟨w3.heap.size, 1, none⟩ = some (.slice ka k2.length kc) ∧ Below wa.heap.size wa w') (by kernel_rfl) hS (fun hHeld => ?_)
            refine wpAnyH_take (i := 0) (oi := { dst := some 32, op := Op.move (Operand.tmp 9), type := 32, pos := "ref.go:95", after := #[], guard := none }) (v := ?_) rfl (by kernel_rfl) (by kernel_rfl) (by kernel_rfl) (fun _ _ _ h => h) (Or.inl ⟨by rfl, ?_⟩) hHeld ?_
            rotate_left
            · intro w hSw
              (try dsimp only at hSw)
              go_simp
              (try with_reducible rfl)
            (try simp only [Act.put, List.setIfInBounds_toArray, List.set_cons_zero, List.set_cons_succ])
            refine wpAnyH_take (i := 1) (oi := { dst := some 33, op := Op.binOp BinOp.neq 32 (Operand.tmp 32) (Operand.const (Value.int IntKind.i64 0)) 32, type := 4, pos := "ref.go:95", after := #[{ on := 0, ground := Ground.data }], guard := none }) (v := ?_) rfl (by kernel_rfl) (by kernel_rfl) (by kernel_rfl) (fun _ _ _ h => h) (Or.inl ⟨by rfl, ?_⟩) hHeld ?_
            rotate_left
            · intro w hSw
              (try dsimp only at hSw)
              go_simp
              (try with_reducible rfl)
            (try simp only [Act.put, List.setIfInBounds_toArray, List.set_cons_zero, List.set_cons_succ])
            refine wpAnyH_take (i := 2) (oi := { dst := some 34, op := Op.move (Operand.tmp 33), type := 4, pos := "ref.go:95", after := #[{ on := 1, ground := Ground.data }], guard := none }) (v := ?_) rfl (by kernel_rfl) (by kernel_rfl) (by kernel_rfl) (fun _ _ _ h => h) (Or.inl ⟨by rfl, ?_⟩) hHeld ?_
            rotate_left
            · intro w hSw
              (try dsimp only at hSw)
              go_simp
              (try with_reducible rfl)
            (try simp only [Act.put, List.setIfInBounds_toArray, List.set_cons_zero, List.set_cons_succ])
            refine wpAnyH_take (i := 3) (oi := { dst := some 35, op := Op.load 78 (Operand.tmp 8), type := 78, pos := "ref.go:95", after := #[{ on := 2, ground := Ground.guard }], guard := some (2, false) }) (v := ?_) rfl (by kernel_rfl) (by kernel_rfl) (by kernel_rfl) (fun _ _ _ h => h) (Or.inl ⟨by rfl, ?_⟩) hHeld ?_
            rotate_left
            · intro w hSw
              (try dsimp only at hSw)
              go_simp
              (try with_reducible rfl)
            (try simp only [Act.put, List.setIfInBounds_toArray, List.set_cons_zero, List.set_cons_succ])
            refine wpAnyH_take (i := 5) (oi := { dst := some 37, op := Op.move (Operand.tmp 6), type := 40, pos := "ref.go:95", after := #[{ on := 2, ground := Ground.guard }], guard := some (2, false) }) (v := ?_) rfl (by kernel_rfl) (by kernel_rfl) (by kernel_rfl) (fun _ _ _ h => h) (Or.inl ⟨by rfl, ?_⟩) hHeld ?_
            rotate_left
            · intro w hSw
              (try dsimp only at hSw)
              go_simp
              (try with_reducible rfl)
            (try simp only [Act.put, List.setIfInBounds_toArray, List.set_cons_zero, List.set_cons_succ])
            refine wpAnyH_take (i := 6) (oi := { dst := some 38, op := Op.move (Operand.tmp 7), type := 3, pos := "ref.go:95", after := #[{ on := 2, ground := Ground.guard }], guard := some (2, false) }) (v := ?_) rfl (by kernel_rfl) (by kernel_rfl) (by kernel_rfl) (fun _ _ _ h => h) (Or.inl ⟨by rfl, ?_⟩) hHeld ?_
            rotate_left
            · intro w hSw
              (try dsimp only at hSw)
              go_simp
              (try with_reducible rfl)
            (try simp only [Act.put, List.setIfInBounds_toArray, List.set_cons_zero, List.set_cons_succ])
            refine wpAnyH_take (i := 7) (oi := { dst := some 39, op := Op.indexAddr 40 (Operand.tmp 37) (Operand.tmp 38), type := 0, pos := "ref.go:95", after := #[{ on := 5, ground := Ground.data }, { on := 6, ground := Ground.data }, { on := 2, ground := Ground.guard }], guard := some (2, false) }) (v := ?_) rfl (by kernel_rfl) (by kernel_rfl) (by kernel_rfl) (fun _ _ _ h => h) (Or.inl ⟨by rfl, ?_⟩) hHeld ?_
            rotate_left
            · intro w hSw
              (try dsimp only at hSw)
              go_simp
              (try with_reducible rfl)
            (try simp only [Act.put, List.setIfInBounds_toArray, List.set_cons_zero, List.set_cons_succ])
            refine wpAnyH_take (i := 8) (oi := { dst := some 40, op := Op.fieldAddr 50 (Operand.tmp 39) 1, type := 0, pos := "ref.go:95", after := #[{ on := 7, ground := Ground.data }, { on := 2, ground := Ground.guard }], guard := some (2, false) }) (v := ?_) rfl (by kernel_rfl) (by kernel_rfl) (by kernel_rfl) (fun _ _ _ h => h) (Or.inl ⟨by rfl, ?_⟩) hHeld ?_
            rotate_left
            · intro w hSw
              (try dsimp only at hSw)
              go_simp
              (try with_reducible rfl)
            (try simp only [Act.put, List.setIfInBounds_toArray, List.set_cons_zero, List.set_cons_succ])
            refine wpAnyH_take (i := 9) (oi := { dst := some 41, op := Op.load 9 (Operand.tmp 40), type := 9, pos := "ref.go:95", after := #[{ on := 8, ground := Ground.data }, { on := 2, ground := Ground.guard }], guard := some (2, false) }) (v := ?_) rfl (by kernel_rfl) (by kernel_rfl) (by kernel_rfl) (fun _ _ _ h => h) (Or.inl ⟨by rfl, ?_⟩) hHeld ?_
            rotate_left
            · intro w hSw
              (try dsimp only at hSw)
              go_simp
              (try with_reducible rfl)
            (try simp only [Act.put, List.setIfInBounds_toArray, List.set_cons_zero, List.set_cons_succ])
            refine wpAnyH_ready (rs := [4]) (by kernel_rfl) (by simp) ?_
            refine AllReadyH.cons (o := { dst := some 36, op := Op.call { callee := Callee.value (Operand.func 52), args := #[Operand.tmp 35], argTypes := #[78] }, type := 9, pos := "ref.go:95", after := #[{ on := 3, ground := Ground.data }, { on := 2, ground := Ground.chain }, { on := 2, ground := Ground.guard }], guard := some (2, false) }) rfl (fun K hK => ?_) AllReadyH.nil
            go_simp
            refine (HT.out _ _ (HKR.out.on hS.2.2.2.2.2.2.2.2)).mono ?_
            rintro e w5 ⟨rfl, n5⟩
            have hS1 := cj_on hS n5
            clear hHeld
            go_simp
            refine hK.out _ _ hS1 (fun hHeld => ?_)
            clear hK K
            (try simp only [Act.put, List.setIfInBounds_toArray, List.set_cons_zero, List.set_cons_succ])
            refine wpAnyH_take (i := 10) (oi := { dst := some 42, op := Op.binOp BinOp.neq 9 (Operand.tmp 36) (Operand.tmp 41) 9, type := 4, pos := "ref.go:95", after := #[{ on := 4, ground := Ground.data }, { on := 9, ground := Ground.data }, { on := 2, ground := Ground.guard }], guard := some (2, false) }) (v := ?_) rfl (by kernel_rfl) (by kernel_rfl) (by kernel_rfl) (fun _ _ _ h => h) (Or.inl ⟨by rfl, ?_⟩) hHeld ?_
            rotate_left
            · intro w hSw
              (try dsimp only at hSw)
              go_simp
              (try with_reducible rfl)
            (try simp only [Act.put, List.setIfInBounds_toArray, List.set_cons_zero, List.set_cons_succ])
            refine wpAnyH_take (i := 11) (oi := { dst := some 43, op := Op.pick (Operand.tmp 34) (Operand.const (Value.bool true)) (Operand.tmp 42), type := 4, pos := "ref.go:95", after := #[{ on := 2, ground := Ground.data }, { on := 10, ground := Ground.data }], guard := none }) (v := ?_) rfl (by kernel_rfl) (by kernel_rfl) (by kernel_rfl) (fun _ _ _ h => h) (Or.inl ⟨by rfl, ?_⟩) hHeld ?_
            rotate_left
            · intro w hSw
              (try dsimp only at hSw)
              go_simp
              (try with_reducible rfl)
            (try simp only [Act.put, List.setIfInBounds_toArray, List.set_cons_zero, List.set_cons_succ])
            refine wpAnyH_take (i := 12) (oi := { dst := some 44, op := Op.move (Operand.tmp 43), type := 4, pos := "ref.go:95", after := #[{ on := 11, ground := Ground.data }, { on := 4, ground := Ground.chain }], guard := none }) (v := ?_) rfl (by kernel_rfl) (by kernel_rfl) (by kernel_rfl) (fun _ _ _ h => h) (Or.inl ⟨by rfl, ?_⟩) hHeld ?_
            rotate_left
            · intro w hSw
              (try dsimp only at hSw)
              go_simp
              (try with_reducible rfl)
            (try simp only [Act.put, List.setIfInBounds_toArray, List.set_cons_zero, List.set_cons_succ])
            refine wpAnyH_take (i := 13) (oi := { dst := some 45, op := Op.move (Operand.tmp 6), type := 40, pos := "ref.go:95", after := #[{ on := 12, ground := Ground.guard }], guard := some (12, false) }) (v := ?_) rfl (by kernel_rfl) (by kernel_rfl) (by kernel_rfl) (fun _ _ _ h => h) (Or.inl ⟨by rfl, ?_⟩) hHeld ?_
            rotate_left
            · intro w hSw
              (try dsimp only at hSw)
              go_simp
              (try with_reducible rfl)
            (try simp only [Act.put, List.setIfInBounds_toArray, List.set_cons_zero, List.set_cons_succ])
            refine wpAnyH_take (i := 14) (oi := { dst := some 46, op := Op.move (Operand.tmp 7), type := 3, pos := "ref.go:95", after := #[{ on := 12, ground := Ground.guard }], guard := some (12, false) }) (v := ?_) rfl (by kernel_rfl) (by kernel_rfl) (by kernel_rfl) (fun _ _ _ h => h) (Or.inl ⟨by rfl, ?_⟩) hHeld ?_
            rotate_left
            · intro w hSw
              (try dsimp only at hSw)
              go_simp
              (try with_reducible rfl)
            (try simp only [Act.put, List.setIfInBounds_toArray, List.set_cons_zero, List.set_cons_succ])
            refine wpAnyH_take (i := 15) (oi := { dst := some 47, op := Op.indexAddr 40 (Operand.tmp 45) (Operand.tmp 46), type := 0, pos := "ref.go:95", after := #[{ on := 13, ground := Ground.data }, { on := 14, ground := Ground.data }, { on := 12, ground := Ground.guard }], guard := some (12, false) }) (v := ?_) rfl (by kernel_rfl) (by kernel_rfl) (by kernel_rfl) (fun _ _ _ h => h) (Or.inl ⟨by rfl, ?_⟩) hHeld ?_
            rotate_left
            · intro w hSw
              (try dsimp only at hSw)
              go_simp
              (try with_reducible rfl)
            (try simp only [Act.put, List.setIfInBounds_toArray, List.set_cons_zero, List.set_cons_succ])
            refine wpAnyH_take (i := 16) (oi := { dst := some 48, op := Op.fieldAddr 50 (Operand.tmp 47) 2, type := 0, pos := "ref.go:95", after := #[{ on := 15, ground := Ground.data }, { on := 12, ground := Ground.guard }], guard := some (12, false) }) (v := ?_) rfl (by kernel_rfl) (by kernel_rfl) (by kernel_rfl) (fun _ _ _ h => h) (Or.inl ⟨by rfl, ?_⟩) hHeld ?_
            rotate_left
            · intro w hSw
              (try dsimp only at hSw)
              go_simp
              (try with_reducible rfl)
            (try simp only [Act.put, List.setIfInBounds_toArray, List.set_cons_zero, List.set_cons_succ])
            refine wpAnyH_take (i := 17) (oi := { dst := some 49, op := Op.fieldAddr 48 (Operand.tmp 48) 0, type := 0, pos := "ref.go:95", after := #[{ on := 16, ground := Ground.data }, { on := 12, ground := Ground.guard }], guard := some (12, false) }) (v := ?_) rfl (by kernel_rfl) (by kernel_rfl) (by kernel_rfl) (fun _ _ _ h => h) (Or.inl ⟨by rfl, ?_⟩) hHeld ?_
            rotate_left
            · intro w hSw
              (try dsimp only at hSw)
              go_simp
              (try with_reducible rfl)
            (try simp only [Act.put, List.setIfInBounds_toArray, List.set_cons_zero, List.set_cons_succ])
            refine wpAnyH_take (i := 18) (oi := { dst := some 50, op := Op.load 2 (Operand.tmp 49), type := 2, pos := "ref.go:95", after := #[{ on := 17, ground := Ground.data }, { on := 12, ground := Ground.guard }], guard := some (12, false) }) (v := ?_) rfl (by kernel_rfl) (by kernel_rfl) (by kernel_rfl) (fun _ _ _ h => h) (Or.inl ⟨by rfl, ?_⟩) hHeld ?_
            rotate_left
            · intro w hSw
              (try dsimp only at hSw)
              go_simp
              (try with_reducible rfl)
            (try simp only [Act.put, List.setIfInBounds_toArray, List.set_cons_zero, List.set_cons_succ])
            refine wpAnyH_take (i := 19) (oi := { dst := some 51, op := Op.binOp BinOp.lss 2 (Operand.tmp 50) (Operand.const (Value.int IntKind.i64 1)) 2, type := 4, pos := "ref.go:95", after := #[{ on := 18, ground := Ground.data }, { on := 12, ground := Ground.guard }], guard := some (12, false) }) (v := ?_) rfl (by kernel_rfl) (by kernel_rfl) (by kernel_rfl) (fun _ _ _ h => h) (Or.inl ⟨by rfl, ?_⟩) hHeld ?_
            rotate_left
            · intro w hSw
              (try dsimp only at hSw)
              go_simp
              (try with_reducible rfl)
            (try simp only [Act.put, List.setIfInBounds_toArray, List.set_cons_zero, List.set_cons_succ])
            refine wpAnyH_take (i := 20) (oi := { dst := some 52, op := Op.pick (Operand.tmp 44) (Operand.const (Value.bool true)) (Operand.tmp 51), type := 4, pos := "ref.go:95", after := #[{ on := 12, ground := Ground.data }, { on := 19, ground := Ground.data }], guard := none }) (v := ?_) rfl (by kernel_rfl) (by kernel_rfl) (by kernel_rfl) (fun _ _ _ h => h) (Or.inl ⟨by rfl, ?_⟩) hHeld ?_
            rotate_left
            · intro w hSw
              (try dsimp only at hSw)
              go_simp
              (try with_reducible rfl)
            (try simp only [Act.put, List.setIfInBounds_toArray, List.set_cons_zero, List.set_cons_succ])
            refine wpAnyH_take (i := 21) (oi := { dst := some 53, op := Op.move (Operand.tmp 52), type := 4, pos := "ref.go:95", after := #[{ on := 20, ground := Ground.data }, { on := 12, ground := Ground.chain }], guard := none }) (v := ?_) rfl (by kernel_rfl) (by kernel_rfl) (by kernel_rfl) (fun _ _ _ h => h) (Or.inl ⟨by rfl, ?_⟩) hHeld ?_
            rotate_left
            · intro w hSw
              (try dsimp only at hSw)
              go_simp
              (try with_reducible rfl)
            (try simp only [Act.put, List.setIfInBounds_toArray, List.set_cons_zero, List.set_cons_succ])
            refine wpAnyH_take (i := 22) (oi := { dst := some 54, op := Op.load 39 (Operand.tmp 2), type := 39, pos := "ref.go:95", after := #[{ on := 21, ground := Ground.guard }], guard := some (21, false) }) (v := undef) rfl (by kernel_rfl) (by kernel_rfl) (by kernel_rfl) (fun _ _ _ h => h) (Or.inr ⟨by rfl, rfl⟩) hHeld ?_
            (try simp only [Act.put, List.setIfInBounds_toArray, List.set_cons_zero, List.set_cons_succ])
            refine wpAnyH_take (i := 23) (oi := { dst := some 55, op := Op.load 78 (Operand.tmp 8), type := 78, pos := "ref.go:95", after := #[{ on := 21, ground := Ground.guard }], guard := some (21, false) }) (v := undef) rfl (by kernel_rfl) (by kernel_rfl) (by kernel_rfl) (fun _ _ _ h => h) (Or.inr ⟨by rfl, rfl⟩) hHeld ?_
            (try simp only [Act.put, List.setIfInBounds_toArray, List.set_cons_zero, List.set_cons_succ])
            refine wpAnyH_take (i := 24) (oi := { dst := some 56, op := Op.call { callee := Callee.value (Operand.func 53), args := #[Operand.tmp 54, Operand.tmp 55], argTypes := #[39, 78] }, type := 4, pos := "ref.go:95", after := #[{ on := 22, ground := Ground.data }, { on := 23, ground := Ground.data }, { on := 21, ground := Ground.chain }, { on := 21, ground := Ground.guard }], guard := some (21, false) }) (v := undef) rfl (by kernel_rfl) (by kernel_rfl) (by kernel_rfl) (fun _ _ _ h => h) (Or.inr ⟨by rfl, rfl⟩) hHeld ?_
            (try simp only [Act.put, List.setIfInBounds_toArray, List.set_cons_zero, List.set_cons_succ])
            refine wpAnyH_take (i := 25) (oi := { dst := some 57, op := Op.unOp UnOp.not 4 (Operand.tmp 56), type := 4, pos := "ref.go:95", after := #[{ on := 24, ground := Ground.data }, { on := 21, ground := Ground.guard }], guard := some (21, false) }) (v := undef) rfl (by kernel_rfl) (by kernel_rfl) (by kernel_rfl) (fun _ _ _ h => h) (Or.inr ⟨by rfl, rfl⟩) hHeld ?_
            (try simp only [Act.put, List.setIfInBounds_toArray, List.set_cons_zero, List.set_cons_succ])
            refine wpAnyH_take (i := 26) (oi := { dst := some 58, op := Op.pick (Operand.tmp 53) (Operand.const (Value.bool true)) (Operand.tmp 57), type := 4, pos := "ref.go:95", after := #[{ on := 21, ground := Ground.data }, { on := 25, ground := Ground.data }], guard := none }) (v := ?_) rfl (by kernel_rfl) (by kernel_rfl) (by kernel_rfl) (fun _ _ _ h => h) (Or.inl ⟨by rfl, ?_⟩) hHeld ?_
            rotate_left
            · intro w hSw
              (try dsimp only at hSw)
              go_simp
              (try with_reducible rfl)
            (try simp only [Act.put, List.setIfInBounds_toArray, List.set_cons_zero, List.set_cons_succ])
            refine wpAnyH_done (by kernel_rfl) ?_ _
            have nz := hS1.2.2.2.2.2.2.2.2
            have D5 := Lib.hid (D4.trans (nz.mono D4.size))
            have HP5 := Lib.hid (own_on HP4.out nz)
            clear hS1 hS nz hHeld
            go_wp2_with fail
            exact ⟨⟨k + 1, by omega, by go_num, (by rw [HNX.out]; exact hnil), (by rw [HNX.out]; exact HP5.out), D5⟩, by simp [intOf]; omega⟩
          · cases hf : qfits (g, n, m, by') (keyOf' S[k])
            · obtain ⟨b, o, rfl, hb1, hL⟩ := HL.out (ne_of_lt hlt)
              obtain ⟨y0, y1, y2, y3, y4, y5, y6⟩ := i_at (hL.on hb1 HD.out) k hlt
              have i1 : (k : Int) < (S.length : Int) := by omega
              have i2 : (0 : Int) ≤ (k : Int) := by omega
              have HKP := Lib.hid (fun W => refKparse_any (S[k]).key W (HS.out _ (List.getElem_mem hlt)))
              have HIT := Lib.hid (fun W (d : Below w2.heap.size w2 W) => i_at (hL.on hb1 d) k hlt)
              have HNX := Lib.hid (HMK.out S k hlt)
              have HYO := Lib.hid (HOK.out _ (List.getElem_mem hlt))
              have he2 : (kparse (S[k]).key.data.toList).2 = 0 := he
              have hkb := key_small he2
              have HT := Lib.hid (fun v W (hW : KRow W v (kparse (S[k]).key.data.toList).1) => refKtext_any v (kparse (S[k]).key.data.toList).1 W hW hkb.1 hkb.2.1 hkb.2.2.1 hkb.2.2.2)
              have HBq := beq_ba (ktextB (kparse (S[k]).key.data.toList).1) (S[k]).key
              have htl : ktextL (kn (keyOf' S[k])) (keyOf' S[k]).2 = kl S[k] := by
                have h2 := (eqB_true _ _).1 ht
                unfold keyOf' kl
                rw [← ktextB_list, h2]
              have ha : asked (g, n, m, by') S[k] = false := by rw [asked_fits hcn he htl]; exact hf
              rw [ha, if_neg (by simp)] at HNX
              have zc : decide ((S[k]).c.cnt < 1) = false := decide_eq_false hcn
              have HF := Lib.hid (fun v W (d : Below w.heap.size w W) (hW : KRow W v (kparse (S[k]).key.data.toList).1) => refQfits_any _ v (g, n, m, by') (kparse (S[k]).key.data.toList).1 W (HQ.out.on d) hW hm (by have := hkb.1; omega) (fun z hz => by have := hkb.2.1 z hz; omega) HZM.out)
              have hf2 : qfits (g, n, m, by') (kparse (S[k]).key.data.toList).1 = false := hf
              rw [hf2] at HF
              clear htl hf hf2 ha
              have zt := HBq.trans ht
              generalize ktextB (kparse (S[k]).key.data.toList).1 = KT at *
              clear HBq ht hkb he
              clear hcn
              generalize S[k] = y at *
              generalize hKP : kparse y.key.data.toList = R at *
              obtain ⟨⟨k1, k2⟩, E⟩ := R
              simp only at *
              subst he2
              clear hKP
              go_wp2_with fail
              refine (HKP.out _).mono ?_
              rintro e w3 ⟨⟨kv, rfl, hkv⟩, n3⟩
              obtain ⟨ka, kc, rfl, hkr⟩ := hkv.open
              have n4 := aBelow w3 (.cells #[.string k1, .slice ka k2.length kc] 78)
              have D4 : Below w2.heap.size w2 (w3.alloc (.cells #[.string k1, .slice ka k2.length kc] 78)) := (HD.out.trans (n3.mono HD.out.size)).trans (n4.mono (Nat.le_trans HD.out.size n3.size))
              have HP4 := Lib.hid (own_on (own_on HP.out n3) n4)
              have HKR := Lib.hid (hkv.on n4)
              clear y0 y1 y2 y3 y4 y5 y6 hkr hkv hL
              obtain ⟨y0, y1, y2, y3, y4, y5, y6⟩ := HIT.out _ D4
              obtain ⟨q0, q1, q2, q3⟩ := X2.out.keep ((Keeps.refl w2).on D4)
              have kb0 : (w3.alloc (.cells #[.string k1, .slice ka k2.length kc] 78)).cell? ⟨w3.heap.size, 0, none⟩ = some (.string k1) := by simp
              have kb1 : (w3.alloc (.cells #[.string k1, .slice ka k2.length kc] 78)).cell? ⟨w3.heap.size, 1, none⟩ = some (.slice ka k2.length kc) := by simp
              clear n3 n4 HKP
              go_wp2_with fail
              have hS : (w3.alloc (.cells #[.string k1, .slice ka k2.length kc] 78)).drew.cell? ⟨w.heap.size, 0, none⟩ = some (.int .i64 g) ∧ (w3.alloc (.cells #[.string k1, .slice ka k2.length kc] 78)).drew.cell? ⟨w.heap.size, 1, none⟩ = some (.string n) ∧ (w3.alloc (.cells #[.string k1, .slice ka k2.length kc] 78)).drew.cell? ⟨w.heap.size, 2, none⟩ = some (.slice qa m.length qc) ∧ (w3.alloc (.cells #[.string k1, .slice ka k2.length kc] 78)).drew.cell? ⟨w.heap.size, 3, none⟩ = some (.slice qb by'.length qd) ∧ (w3.alloc (.cells #[.string k1, .slice ka k2.length kc] 78)).drew.cell? ⟨b, o + k * 7 + 1, none⟩ = some (.string y.key) ∧ (w3.alloc (.cells #[.string k1, .slice ka k2.length kc] 78)).drew.cell? ⟨b, o + k * 7 + 2, none⟩ = some (.int .i64 y.c.cnt) ∧ (w3.alloc (.cells #[.string k1, .slice ka k2.length kc] 78)).drew.cell? ⟨w3.heap.size, 0, none⟩ = some (.string k1) ∧ (w3.alloc (.cells #[.string k1, .slice ka k2.length kc] 78)).drew.cell? ⟨w3.heap.size, 1, none⟩ = some (.slice ka k2.length kc) ∧ Below (w3.alloc (.cells #[.string k1, .slice ka k2.length kc] 78)).heap.size (w3.alloc (.cells #[.string k1, .slice ka k2.length kc] 78)) (w3.alloc (.cells #[.string k1, .slice ka k2.length kc] 78)).drew := ⟨q0, q1, q2, q3, y1, y2, kb0, kb1, (Below.refl _ _).drew⟩
              have hnk : ∀ cur, (w3.alloc (.cells #[.string k1, .slice ka k2.length kc] 78)).heap[w3.heap.size]? ≠ some (.cells cur 86 (0, 0)) := fun cur h => by
                rw [heap_alloc_new] at h
                cases h
              clear q0 q1 q2 q3 y0 y1 y2 y3 y4 y5 y6 kb0 kb1
              generalize (w3.alloc (.cells #[.string k1, .slice ka k2.length kc] 78)) = wa at *
              go_region_held3 (fun w' => w'.cell? ⟨w.heap.size, 0, none⟩ = some (.int .i64 g) ∧ w'.cell? ⟨w.heap.size, 1, none⟩ = some (.string n) ∧ w'.cell? ⟨w.heap.size, 2, none⟩ = some (.slice qa m.length qc) ∧ w'.cell? ⟨w.heap.size, 3, none⟩ = some (.slice qb by'.length qd) ∧ w'.cell? ⟨b, o + k * 7 + 1, none⟩ = some (.string y.key) ∧ w'.cell? ⟨b, o + k * 7 + 2, none⟩ = some (.int .i64 y.c.cnt) ∧ w'.cell? ⟨w3.heap.size, 0, none⟩ = some (.string k1) ∧ w'.cell? ⟨w3.heap.size, 1, none⟩ = some (.slice ka k2.length kc) ∧ Below wa.heap.size wa w') (first | exact hS | exact hS1 | exact hS2)
                (first
                  | (go_at_call 53; refine (HF.out _ _ (d2.trans ((D4.trans (hS1.2.2.2.2.2.2.2.2.mono D4.size)).mono d2.size)) (HKR.out.on hS1.2.2.2.2.2.2.2.2)).mono ?_; rintro e w6 ⟨rfl, n6⟩; have hS2 := cj_on hS1 n6)
                  | (go_at_call 52; refine (HT.out _ _ (HKR.out.on hS.2.2.2.2.2.2.2.2)).mono ?_; rintro e w5 ⟨rfl, n5⟩; have hS1 := cj_on hS n5)
                  | fail)
              have nz := hS2.2.2.2.2.2.2.2.2
              have D5 := Lib.hid (D4.trans (nz.mono D4.size))
              have HP5 := Lib.hid (own_on HP4.out nz)
              clear hS hS1 hS2 nz n5 n6
              go_wp2_with fail
              exact ⟨⟨k + 1, by omega, by go_num, (by rw [HNX.out]; exact hnil), (by rw [HNX.out]; exact HP5.out), D5⟩, by simp [intOf]; omega⟩
            · obtain ⟨b, o, rfl, hb1, hL⟩ := HL.out (ne_of_lt hlt)
              obtain ⟨y0, y1, y2, y3, y4, y5, y6⟩ := i_at (hL.on hb1 HD.out) k hlt
              have i1 : (k : Int) < (S.length : Int) := by omega
              have i2 : (0 : Int) ≤ (k : Int) := by omega
              have HKP := Lib.hid (fun W => refKparse_any (S[k]).key W (HS.out _ (List.getElem_mem hlt)))
              have HIT := Lib.hid (fun W (d : Below w2.heap.size w2 W) => i_at (hL.on hb1 d) k hlt)
              have HNX := Lib.hid (HMK.out S k hlt)
              have HYO := Lib.hid (HOK.out _ (List.getElem_mem hlt))
              have he2 : (kparse (S[k]).key.data.toList).2 = 0 := he
              have hkb := key_small he2
              have HT := Lib.hid (fun v W (hW : KRow W v (kparse (S[k]).key.data.toList).1) => refKtext_any v (kparse (S[k]).key.data.toList).1 W hW hkb.1 hkb.2.1 hkb.2.2.1 hkb.2.2.2)
              have HBq := beq_ba (ktextB (kparse (S[k]).key.data.toList).1) (S[k]).key
              have htl : ktextL (kn (keyOf' S[k])) (keyOf' S[k]).2 = kl S[k] := by
                have h2 := (eqB_true _ _).1 ht
                unfold keyOf' kl
                rw [← ktextB_list, h2]
              have ha : asked (g, n, m, by') S[k] = true := by rw [asked_fits hcn he htl]; exact hf
              rw [ha, if_pos rfl] at HNX
              have zc : decide ((S[k]).c.cnt < 1) = false := decide_eq_false hcn
              have HF := Lib.hid (fun v W (d : Below w.heap.size w W) (hW : KRow W v (kparse (S[k]).key.data.toList).1) => refQfits_any _ v (g, n, m, by') (kparse (S[k]).key.data.toList).1 W (HQ.out.on d) hW hm (by have := hkb.1; omega) (fun z hz => by have := hkb.2.1 z hz; omega) HZM.out)
              have hf2 : qfits (g, n, m, by') (kparse (S[k]).key.data.toList).1 = true := hf
              rw [hf2] at HF
              have HGR := Lib.hid (fun v W (d : Below w.heap.size w W) (hW : KRow W v (kparse (S[k]).key.data.toList).1) => refQgroup_any _ v (g, n, m, by') (kparse (S[k]).key.data.toList).1 W (HQ.out.on d) hW hb (by have := hkb.1; omega) hkb.2.1)
              have eG : textB (only (kparse (S[k]).key.data.toList).1.2 by') = bb (qgroup (g, n, m, by') (keyOf' S[k])) := textB_group (g, n, m, by') S[k]
              simp only [eG] at HGR
              unfold partOf at HNX
              generalize bb (qgroup (g, n, m, by') (keyOf' S[k])) = GB at *
              clear eG
              clear htl hf hf2 ha
              have zt := HBq.trans ht
              generalize ktextB (kparse (S[k]).key.data.toList).1 = KT at *
              clear HBq ht hkb he
              clear hcn
              generalize S[k] = y at *
              generalize hKP : kparse y.key.data.toList = R at *
              obtain ⟨⟨k1, k2⟩, E⟩ := R
              simp only at *
              subst he2
              clear hKP
              go_wp2_with fail
              refine (HKP.out _).mono ?_
              rintro e w3 ⟨⟨kv, rfl, hkv⟩, n3⟩
              obtain ⟨ka, kc, rfl, hkr⟩ := hkv.open
              have n4 := aBelow w3 (.cells #[.string k1, .slice ka k2.length kc] 78)
              have D4 : Below w2.heap.size w2 (w3.alloc (.cells #[.string k1, .slice ka k2.length kc] 78)) := (HD.out.trans (n3.mono HD.out.size)).trans (n4.mono (Nat.le_trans HD.out.size n3.size))
              have HP4 := Lib.hid (own_on (own_on HP.out n3) n4)
              have HKR := Lib.hid (hkv.on n4)
              clear y0 y1 y2 y3 y4 y5 y6 hkr hkv hL
              obtain ⟨y0, y1, y2, y3, y4, y5, y6⟩ := HIT.out _ D4
              obtain ⟨q0, q1, q2, q3⟩ := X2.out.keep ((Keeps.refl w2).on D4)
              have kb0 : (w3.alloc (.cells #[.string k1, .slice ka k2.length kc] 78)).cell? ⟨w3.heap.size, 0, none⟩ = some (.string k1) := by simp
              have kb1 : (w3.alloc (.cells #[.string k1, .slice ka k2.length kc] 78)).cell? ⟨w3.heap.size, 1, none⟩ = some (.slice ka k2.length kc) := by simp
              clear n3 n4 HKP
              go_wp2_with fail
              have hS : (w3.alloc (.cells #[.string k1, .slice ka k2.length kc] 78)).drew.cell? ⟨w.heap.size, 0, none⟩ = some (.int .i64 g) ∧ (w3.alloc (.cells #[.string k1, .slice ka k2.length kc] 78)).drew.cell? ⟨w.heap.size, 1, none⟩ = some (.string n) ∧ (w3.alloc (.cells #[.string k1, .slice ka k2.length kc] 78)).drew.cell? ⟨w.heap.size, 2, none⟩ = some (.slice qa m.length qc) ∧ (w3.alloc (.cells #[.string k1, .slice ka k2.length kc] 78)).drew.cell? ⟨w.heap.size, 3, none⟩ = some (.slice qb by'.length qd) ∧ (w3.alloc (.cells #[.string k1, .slice ka k2.length kc] 78)).drew.cell? ⟨b, o + k * 7 + 1, none⟩ = some (.string y.key) ∧ (w3.alloc (.cells #[.string k1, .slice ka k2.length kc] 78)).drew.cell? ⟨b, o + k * 7 + 2, none⟩ = some (.int .i64 y.c.cnt) ∧ (w3.alloc (.cells #[.string k1, .slice ka k2.length kc] 78)).drew.cell? ⟨w3.heap.size, 0, none⟩ = some (.string k1) ∧ (w3.alloc (.cells #[.string k1, .slice ka k2.length kc] 78)).drew.cell? ⟨w3.heap.size, 1, none⟩ = some (.slice ka k2.length kc) ∧ Below (w3.alloc (.cells #[.string k1, .slice ka k2.length kc] 78)).heap.size (w3.alloc (.cells #[.string k1, .slice ka k2.length kc] 78)) (w3.alloc (.cells #[.string k1, .slice ka k2.length kc] 78)).drew := ⟨q0, q1, q2, q3, y1, y2, kb0, kb1, (Below.refl _ _).drew⟩
              have hnk : ∀ cur, (w3.alloc (.cells #[.string k1, .slice ka k2.length kc] 78)).heap[w3.heap.size]? ≠ some (.cells cur 86 (0, 0)) := fun cur h => by
                rw [heap_alloc_new] at h
                cases h
              clear q0 q1 q2 q3 y0 y1 y2 y3 y4 y5 y6 kb0 kb1
              generalize (w3.alloc (.cells #[.string k1, .slice ka k2.length kc] 78)) = wa at *
              go_region_held3 (fun w' => w'.cell? ⟨w.heap.size, 0, none⟩ = some (.int .i64 g) ∧ w'.cell? ⟨w.heap.size, 1, none⟩ = some (.string n) ∧ w'.cell? ⟨w.heap.size, 2, none⟩ = some (.slice qa m.length qc) ∧ w'.cell? ⟨w.heap.size, 3, none⟩ = some (.slice qb by'.length qd) ∧ w'.cell? ⟨b, o + k * 7 + 1, none⟩ = some (.string y.key) ∧ w'.cell? ⟨b, o + k * 7 + 2, none⟩ = some (.int .i64 y.c.cnt) ∧ w'.cell? ⟨w3.heap.size, 0, none⟩ = some (.string k1) ∧ w'.cell? ⟨w3.heap.size, 1, none⟩ = some (.slice ka k2.length kc) ∧ Below wa.heap.size wa w') (first | exact hS | exact hS1 | exact hS2)
                (first
                  | (go_at_call 53; refine (HF.out _ _ (d2.trans ((D4.trans (hS1.2.2.2.2.2.2.2.2.mono D4.size)).mono d2.size)) (HKR.out.on hS1.2.2.2.2.2.2.2.2)).mono ?_; rintro e w6 ⟨rfl, n6⟩; have hS2 := cj_on hS1 n6)
                  | (go_at_call 52; refine (HT.out _ _ (HKR.out.on hS.2.2.2.2.2.2.2.2)).mono ?_; rintro e w5 ⟨rfl, n5⟩; have hS1 := cj_on hS n5)
                  | fail)
              have nz := hS2.2.2.2.2.2.2.2.2
              have D5 := Lib.hid (D4.trans (nz.mono D4.size))
              have HP5 := Lib.hid (own_on HP4.out nz)
              have HKR5 := Lib.hid (HKR.out.on nz)
              have hnk5 : ∀ cur, w6.heap[w3.heap.size]? ≠ some (.cells cur 86 (0, 0)) := fun cur h => by
                have hlt3 := World.block_lt_of_cell? _ _ hS.2.2.2.2.2.2.1
                rw [nz.block _ hlt3] at h
                exact hnk cur h
              obtain ⟨y0, y1, y2, y3, y4, y5, y6⟩ := HIT.out _ D5.out
              have hK : w6.drew.cell? ⟨w.heap.size, 0, none⟩ = some (.int .i64 g) ∧ w6.drew.cell? ⟨w.heap.size, 1, none⟩ = some (.string n) ∧ w6.drew.cell? ⟨w.heap.size, 2, none⟩ = some (.slice qa m.length qc) ∧ w6.drew.cell? ⟨w.heap.size, 3, none⟩ = some (.slice qb by'.length qd) ∧ w6.drew.cell? ⟨b, o + k * 7, none⟩ = some (.int .i64 y.win) ∧ w6.drew.cell? ⟨b, o + k * 7 + 2, none⟩ = some (.int .i64 y.c.cnt) ∧ w6.drew.cell? ⟨b, o + k * 7 + 2 + 1, none⟩ = some (.int .i64 y.c.sn) ∧ w6.drew.cell? ⟨b, o + k * 7 + 2 + 2, none⟩ = some (.bool y.c.so) ∧ w6.drew.cell? ⟨b, o + k * 7 + 2 + 3, none⟩ = some (.int .i64 y.c.mn) ∧ w6.drew.cell? ⟨b, o + k * 7 + 2 + 4, none⟩ = some (.int .i64 y.c.mx) ∧ w6.drew.cell? ⟨w3.heap.size, 0, none⟩ = some (.string k1) ∧ w6.drew.cell? ⟨w3.heap.size, 1, none⟩ = some (.slice ka k2.length kc) := ⟨hS2.1, hS2.2.1, hS2.2.2.1, hS2.2.2.2.1, y0, y2, y3, y4, y5, y6, hS2.2.2.2.2.2.2.1, hS2.2.2.2.2.2.2.2.1⟩
              clear y0 y1 y2 y3 y4 y5 y6 hS hS1 hS2 n5 n6 nz hnk
              have hml : (M (S.take k)).length ≤ 1000 := by have := HML.out (S.take k); rw [List.length_take] at this; omega
              have HMC := Lib.hid (HMO.out (S.take k) (fun i hi => HOK.out i (List.mem_of_mem_take hi)))
              have dQ := d2.trans (D5.out.drew.mono d2.size)
              go_wp2_with fail
              go_region_held3 (fun w' => w'.cell? ⟨w.heap.size, 0, none⟩ = some (.int .i64 g) ∧ w'.cell? ⟨w.heap.size, 1, none⟩ = some (.string n) ∧ w'.cell? ⟨w.heap.size, 2, none⟩ = some (.slice qa m.length qc) ∧ w'.cell? ⟨w.heap.size, 3, none⟩ = some (.slice qb by'.length qd) ∧ w'.cell? ⟨b, o + k * 7, none⟩ = some (.int .i64 y.win) ∧ w'.cell? ⟨b, o + k * 7 + 2, none⟩ = some (.int .i64 y.c.cnt) ∧ w'.cell? ⟨b, o + k * 7 + 2 + 1, none⟩ = some (.int .i64 y.c.sn) ∧ w'.cell? ⟨b, o + k * 7 + 2 + 2, none⟩ = some (.bool y.c.so) ∧ w'.cell? ⟨b, o + k * 7 + 2 + 3, none⟩ = some (.int .i64 y.c.mn) ∧ w'.cell? ⟨b, o + k * 7 + 2 + 4, none⟩ = some (.int .i64 y.c.mx) ∧ w'.cell? ⟨w3.heap.size, 0, none⟩ = some (.string k1) ∧ w'.cell? ⟨w3.heap.size, 1, none⟩ = some (.slice ka k2.length kc)) (first | exact hK | exact hK1 | exact hK2)
                (first
                  | (go_at_call 54; have hq := n7; refine (into_any w2.heap.size _ (M (S.take k)) ⟨y.win, GB, y.c⟩ w2 w7 (Nat.le_trans D5.out.size n7.size) (D5.out.drew.trans (n7.mono D5.out.size)) (own_on HP5.out.drew n7) hnil hml HMC.out HYO.out.2).mono ?_; rintro e w8 ⟨⟨vp, rfl, ho8⟩, d8, k8⟩; have hK2 := ck_into hK1 hq2 hb1 (D5.out.drew.trans (n7.mono D5.out.size)) d8 k8 (fun cur h => hnk5 cur (by rw [← h]; exact (n7.block _ (World.block_lt_of_cell? _ _ hK.2.2.2.2.2.2.2.2.2.2.1)).symm)))
                  | (go_at_call 55; refine (HGR.out _ _ dQ (HKR5.out.on (Below.refl _ _).drew)).mono ?_; rintro e w7 ⟨rfl, n7⟩; have hK1 := ck_on hK ((Keeps.refl _).on n7))
                  | fail)
              have HP8 := Lib.hid ho8
              have D8 := Lib.hid d8
              clear ho8 d8 k8 hK hK1 hK2 n7
              have hne8 : ¬ putP (M (S.take k)) ⟨y.win, GB, y.c⟩ = [] := by
                intro h
                have := congrArg List.length h
                exact putP_ne _ _ h
              go_wp2_with fail
              exact ⟨⟨k + 1, by omega, by go_num, (by rw [HNX.out]; exact fun h => absurd h hne8), (by rw [HNX.out]; exact HP8.out), D8⟩, by simp [intOf]; omega⟩
    · have hkk : S.take k = S := List.take_of_length_le (by omega)
      rw [hkk] at HP
      have hMl : (M S).length ≤ 1000 := by have := HML.out S; omega
      clear hnil hkk
      obtain ⟨pa, pc, hpv, hpc, hpl⟩ := ownG_row itC_len HP.out
      subst hpv
      have HPL := Lib.hid hpl
      have XR := Lib.hid (X2.out.keep ((Keeps.refl w2).on HD.out))
      have dR := d2.trans (HD.out.mono d2.size)
      have hqr : w.heap.size < wr.heap.size := World.block_lt_of_cell? _ _ XR.out.1
      clear hpl HP HD
      generalize hMS : M S = L at *
      have HMS := Lib.hid hMS
      clear hMS
      generalize wr = wz at *
      obtain ⟨i0, hi, hz0, hz1, hz2⟩ := info29
      have HI := Lib.hid (And.intro hi (And.intro hz0 (And.intro hz1 hz2)))
      clear hi hz0 hz1 hz2
      go_wp2_with fail
      go_loopw [10, 11] (fun ov iv wr => ∃ j : Nat, j ≤ L.length ∧ iv = .int .i64 j ∧ Hid (wr.ownsRow wz.heap.size 29 4 ov j (flatG rowC ((L.take j).map (rowOf g)))) ∧ Hid (Below wz.heap.size wz wr)) (fun _ i _ => L.length - (intOf i).toNat)
      case atStart => exact ⟨0, Nat.zero_le _, rfl, World.ownsRow_nil _ _ _ _, Below.refl _ _⟩
      case round =>
        obtain ⟨j, hj, rfl, HO, HD⟩ := hrel
        by_cases hjl : j < L.length
        · obtain ⟨b, o, rfl, hb1, hL⟩ := HPL.out (ne_of_lt hjl)
          obtain ⟨y0, y1, y2, y3, y4, y5, y6⟩ := i_at (hL.on hb1 HD.out) j hjl
          have i1 : (j : Int) < (L.length : Int) := by omega
          have i2 : (0 : Int) ≤ (j : Int) := by omega
          have XA := (XR.out.keep ((Keeps.refl wz).on HD.out)).1
          have HNX : Hid (flatG rowC ((L.take (j + 1)).map (rowOf g)) = flatG rowC ((L.take j).map (rowOf g)) ++ rowC (rowOf g L[j])) := by
            show _ = _
            rw [List.take_succ_eq_append_getElem hjl, List.map_append, flatG_append, List.map_singleton, flatG_one]
          generalize L[j] = y at *
          clear hL
          have HV := Lib.hid (fun W => Ce.refValue_any y.c g W)
          obtain ⟨r1, r2, hrv⟩ : ∃ r1 r2, Cl.val y.c g = (r1, r2) := ⟨_, _, rfl⟩
          rw [hrv] at HV
          have hro : rowOf g y = ⟨y.win, y.key, r1, r2⟩ := by unfold rowOf; rw [hrv]
          rw [hro] at HNX
          have hS : wr.drew.cell? ⟨b, o + j * 7, none⟩ = some (.int .i64 y.win) ∧ wr.drew.cell? ⟨b, o + j * 7 + 1, none⟩ = some (.string y.key) ∧ wr.drew.cell? ⟨b, o + j * 7 + 2, none⟩ = some (.int .i64 y.c.cnt) ∧ wr.drew.cell? ⟨b, o + j * 7 + 2 + 1, none⟩ = some (.int .i64 y.c.sn) ∧ wr.drew.cell? ⟨b, o + j * 7 + 2 + 2, none⟩ = some (.bool y.c.so) ∧ wr.drew.cell? ⟨b, o + j * 7 + 2 + 3, none⟩ = some (.int .i64 y.c.mn) ∧ wr.drew.cell? ⟨b, o + j * 7 + 2 + 4, none⟩ = some (.int .i64 y.c.mx) ∧ wr.drew.cell? ⟨w.heap.size, 0, none⟩ = some (.int .i64 g) := ⟨y0, y1, y2, y3, y4, y5, y6, XA⟩
          have hzr := HD.out.size
          have hown1 := Lib.hid (fun k (hk : u10.ownBlock = some k) => HO.out.lt k hk)
          have hneb : some b ≠ u10.ownBlock := fun e => by have := (hown1.out _ e.symm).1; omega
          have hneq : some w.heap.size ≠ u10.ownBlock := fun e => by have := (hown1.out _ e.symm).1; omega
          clear y0 y1 y2 y3 y4 y5 y6 XA hro hrv
          go_wp2_with fail
          go_region_held3 (fun w' => w'.cell? ⟨b, o + j * 7, none⟩ = some (.int .i64 y.win) ∧ w'.cell? ⟨b, o + j * 7 + 1, none⟩ = some (.string y.key) ∧ w'.cell? ⟨b, o + j * 7 + 2, none⟩ = some (.int .i64 y.c.cnt) ∧ w'.cell? ⟨b, o + j * 7 + 2 + 1, none⟩ = some (.int .i64 y.c.sn) ∧ w'.cell? ⟨b, o + j * 7 + 2 + 2, none⟩ = some (.bool y.c.so) ∧ w'.cell? ⟨b, o + j * 7 + 2 + 3, none⟩ = some (.int .i64 y.c.mn) ∧ w'.cell? ⟨b, o + j * 7 + 2 + 4, none⟩ = some (.int .i64 y.c.mx) ∧ w'.cell? ⟨w.heap.size, 0, none⟩ = some (.int .i64 g)) (first | exact hS | exact hS5 | exact co_on hS5 ((Keeps.refl _).on (aBelow _ _)) | exact co_far (co_on hS5 ((Keeps.refl _).on (aBelow _ _))) hgrow6 hneb hneq)
            (first
              | (go_at_call 56; refine (HV.out _).mono ?_; rintro e w5 ⟨rfl, n5⟩; have hS5 := co_on hS ((Keeps.refl _).on n5); have O5 := own_on HO.out.drew n5; have hz5 : wr.heap.size ≤ w5.heap.size := n5.size)
              | (refine step_append_own _ (by rfl) _ _ _ (by rfl) wz.heap.size 29 i0 _ 4 40 Tryz.underlying22 HI.out.1 HI.out.2.1 HI.out.2.2.1 HI.out.2.2.2 rfl (by decide) u10 j (flatG rowC ((L.take j).map (rowOf g))) (by rfl) (O5.alloc _) ⟨w5.heap.size, 0, none⟩ 1 1 (rowC ⟨y.win, y.key, r1, r2⟩) (by rfl) (by rfl) (new1R w5 ⟨y.win, y.key, r1, r2⟩) (rowC_one _) (by unfold maxLen; omega) (by omega) (by simp; omega) ?_; intro v6 w6 hown6 hgrow6 hnil6)
              | fail)
          have HO6 : Hid (w6.ownsRow wz.heap.size 29 4 v6 (j + 1) (flatG rowC ((L.take (j + 1)).map (rowOf g)))) := by
            show World.ownsRow _ _ _ _ _ _ _
            rw [HNX.out]
            exact hown6
          have d5 := (HD.out.drew).trans (n5.mono HD.out.size)
          have D6 := Lib.hid ((d5.alloc d5.size _).grown hgrow6 (by have := d5.size; simp; omega) (fun k e => (hown1.out _ e).1))
          clear hown6 hgrow6 hnil6 O5 n5 d5 hS hS5
          go_wp2_with fail
          exact ⟨⟨j + 1, by omega, by go_num, HO6, D6⟩, by simp [intOf]; omega⟩
        · have hjj : j = L.length := by omega
          subst hjj
          rw [List.take_length] at HO
          have hlm : (L.map (rowOf g)).length = L.length := List.length_map ..
          have hr : RRow wr u10 (L.map (rowOf g)) := ownG_row rowC_len (by rw [hlm]; exact HO.out)
          have HRr := Lib.hid hr
          clear hr
          have dz := dR.trans (HD.out.mono dR.size)
          clear HO HD hlm
          go_wp2_with fail
          go_ret
          exact ⟨⟨_, rfl, by rw [HMS.out]; exact HRr.out⟩, dz⟩
set_option maxRecDepth 100000 in
set_option maxHeartbeats 1000000 in
theorem refAnswer_any (v1 v2 : Value) (q : Query) (l : List Item) (w : World) (h1 : QRow w v1 q) (h2 : IRow w v2 l)
    (hz : q.2.1.size ≤ 281474976710656) (hm : q.2.2.1.length ≤ 1000000) (hzm : ∀ x ∈ q.2.2.1, x.2.1.size ≤ 281474976710656 ∧ x.2.2.size ≤ 281474976710656) (hb : q.2.2.2.length ≤ 1000000) (hzb : ∀ x ∈ q.2.2.2, x.size ≤ 281474976710656)
    (hn : l.length ≤ 1000) (hs : ∀ i ∈ l, i.key.size ≤ 900) (ho : ∀ i ∈ l, okI i) :
    Calls Tryz.prog 24 #[v1, v2] w fun e w' => (∃ v', e = .returned v' ∧ RRow w' v' (answer q l)) ∧ Below w.heap.size w w' := by
  have HR0 : ∀ W, Below w.heap.size w W → Calls Tryz.prog 49 #[v1] W fun e w' => e = .returned (.bool (qright q)) ∧ Below W.heap.size W w' := fun W d => refQright_any v1 q W (h1.on d) hz hm hzm hb hzb
  unfold answer
  cases hr : qright q
  · rw [hr] at HR0
    have HR1 := Lib.hid HR0
    obtain ⟨qa, qc, qb, qd, rfl, -, -⟩ := h1.open
    clear HR0 hr hs ho h1 hzm hzb
    obtain ⟨ia, ic, rfl, _, _⟩ := h2
    go_enter Tryz.func24, Tryz.ntmps24
    go_wp2_with fail
    refine (HR1.out _ (aBelow _ _)).mono ?_
    rintro e w1 ⟨rfl, n1⟩
    have d1 := belowA n1
    clear n1
    go_wp2_with fail
    go_ret
    exact ⟨⟨_, rfl, GRow.nil _⟩, d1⟩
  · rw [hr] at HR0
    exact refAnswer_t v1 v2 q l w h1 h2 HR0 hm hzm hb hn hs ho

end Go.Proofs.YtidkpalckafgkaaGreatDoor.Rw
