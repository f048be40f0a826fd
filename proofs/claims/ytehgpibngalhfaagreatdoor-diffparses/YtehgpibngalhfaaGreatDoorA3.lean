/- Carried over from earlier layers: walks and lemmas. -/
import Derived.Test.YtehgpibngalhfaaGreatDoorA2
import Derived.Shelf.SlSortCmp.QuietGrown
import Derived.Lib.SliceRun
import Derived.OwnWalk
import Derived.Deep.AppendLies
namespace Go.Proofs.YtehgpibngalhfaaGreatDoor
open Go Go.RowKit Go.Sort Tg
set_option maxRecDepth 100000 in
set_option maxHeartbeats 400000 in
theorem byName_any (x y : Tag) (W : World) :
    Calls Tryz.prog 99 #[.agg #[.string x.1, .string x.2], .agg #[.string y.1, .string y.2]] W fun e w' => e = .returned (.int .i64 (cf x y)) ∧ ∃ q os', w' = grow (W.drewN q) os' := by
  have hcon := fun W' => Tryz.strings_Compare x.1 y.1 W'
  rw [show Lib.compareBytes x.1.data.toList y.1.data.toList = cf x y from rfl] at hcon
  generalize cf x y = r at hcon ⊢
  go_enter Tryz.func99, Tryz.ntmps99
  go_wp2_with (go_at_call 71; refine (hcon _).mono ?_; rintro e w' ⟨rfl, rfl⟩)
  go_ret
  exact ⟨rfl, 0, _, by rw [alloc_eq_grow, alloc_eq_grow, grow_grow]; rfl⟩
theorem cf_lt (x y : Tag) : cf x y < 0 ↔ lt x y = true := Iff.of_eq (compare_less (nm x) (nm y))
set_option maxRecDepth 100000 in
set_option maxHeartbeats 1000000 in
theorem rising_any (v : Value) (l : List Tag) (w : World) (h : TRow w v l) (hn : l.length ≤ 1000000) :
    Calls Tryz.prog 100 #[v] w fun e w' => e = .returned (.bool (rising l)) ∧ Below w.heap.size w w' := by
  obtain ⟨a, c, rfl, hc, hl⟩ := h
  have HL := Lib.hid hl
  clear hl
  obtain ⟨A, HA⟩ : ∃ A, Hid (rising l = A) := ⟨_, rfl⟩
  rw [HA.out]
  go_enter Tryz.func100, Tryz.ntmps100
  go_wp2
  go_loopw [3] (fun i wr => ∃ (k : Nat), 1 ≤ k ∧ k ≤ l.length + 1 ∧ i = .int .i64 k ∧ Hid (rising (l.take k) = true) ∧ Below w.heap.size w wr) (fun i _ => l.length + 1 - (intOf i).toNat)
  case atStart =>
    refine ⟨1, Nat.le_refl _, by omega, rfl, ?_, Below.refl _ _⟩
    show rising (l.take 1) = true
    cases l with
    | nil => exact rising_nil
    | cons x r => exact rising_one x
  case round =>
    obtain ⟨k, hk1, hk, rfl, HT, hbl⟩ := hrel
    by_cases hlt : k < l.length
    · obtain ⟨b, o, rfl, hb, hL⟩ := HL.out (ne_of_lt hlt)
      have hb' : b < wr.heap.size := Nat.lt_of_lt_of_le hb hbl.size
      have hL' := hL.on hb hbl
      obtain ⟨j, hj⟩ : ∃ j, j = k - 1 := ⟨_, rfl⟩
      have hjl : j < l.length := by omega
      have hjk : (k : Int) - 1 = (j : Int) := by omega
      obtain ⟨e1, e2⟩ := hL' j hjl
      obtain ⟨e3, e4⟩ := hL' k hlt
      have f1 := fun n os => cell_grown (a := ⟨b, o + j * 2, none⟩) hb' e1 n os
      have f2 := fun n os => cell_grown (a := ⟨b, o + j * 2 + 1, none⟩) hb' e2 n os
      have f3 := fun n os => cell_grown (a := ⟨b, o + k * 2, none⟩) hb' e3 n os
      have f4 := fun n os => cell_grown (a := ⟨b, o + k * 2 + 1, none⟩) hb' e4 n os
      have i1 : (k : Int) < (l.length : Int) := by omega
      have i2 : (0 : Int) ≤ (k : Int) := by omega
      have i3 : (j : Int) < (l.length : Int) := by omega
      have i5 : (0 : Int) ≤ (j : Int) := by omega
      have i4 : IntKind.i64.wrap (j : Int) = (j : Int) := by rw [IntKind.wrap_i64]; omega
      have mx := mixed
      have HR := Lib.hid (rising_take l k (by omega) hlt)
      have ej : l[k - 1] = l[j] := by subst hj; rfl
      rw [ej] at HR
      have HC := Lib.hid (cf_lt l[j] l[k])
      have HB := Lib.hid (byName_any l[j] l[k])
      clear ej
      generalize l[j] = x at *
      generalize l[k] = y at *
      clear e1 e2 e3 e4 hL hL' HL hj
      by_cases hc : cf x y < 0
      · have HN : Hid (rising (l.take (k + 1)) = true) := by
          show _ = _
          rw [HR.out, HT.out, HC.out.1 hc]; rfl
        generalize cf x y = z at *
        go_wp2_with fail
        go_quiet_grown (first | (go_at_call 99; refine Calls.grown_of (HB.out _)))
        go_wp2_with fail
        exact ⟨⟨k + 1, by omega, by omega, by go_num, HN, hbl.trans ((below_grow wr nq osq).mono hbl.size)⟩, by simp [intOf]; omega⟩
      · have HN : Hid (A = false) := by
          show A = false
          rw [← HA.out]
          refine rising_of_take (k := k + 1) ?_
          rw [HR.out, HT.out]
          cases hlt : lt x y
          · rfl
          · exact absurd (HC.out.2 hlt) hc
        generalize cf x y = z at *
        go_wp2_with fail
        go_quiet_grown (first | (go_at_call 99; refine Calls.grown_of (HB.out _)))
        go_wp2_with fail
        go_ret
        exact ⟨ret_bool (HN.out).symm, hbl.trans ((below_grow wr nq osq).mono hbl.size)⟩
    · have HE : Hid (A = true) := by
        have h1 := HT.out
        rw [List.take_of_length_le (by omega)] at h1
        show A = true
        rw [← HA.out]
        exact h1
      go_wp2_with fail
      go_ret
      exact ⟨ret_bool (HE.out).symm, hbl⟩
set_option maxRecDepth 100000 in
set_option maxHeartbeats 1000000 in
theorem formed_any (v : Value) (l : List Tag) (w : World) (h : TRow w v l) (hn : l.length ≤ 1000000) (hs : ∀ x ∈ l, x.1.size ≤ 281474976710656 ∧ x.2.size ≤ 281474976710656) :
    Calls Tryz.prog 96 #[v] w fun e w' => e = .returned (.bool (l.all may)) ∧ Below w.heap.size w w' := by
  obtain ⟨a, c, rfl, hc, hl⟩ := h
  have HL := Lib.hid hl
  have HS := Lib.hid hs
  clear hl hs
  obtain ⟨A, HA⟩ : ∃ A, Hid (l.all may = A) := ⟨_, rfl⟩
  rw [HA.out]
  go_enter Tryz.func96, Tryz.ntmps96
  go_wp2
  go_loopw [7] (fun i wr => ∃ (k : Nat), k ≤ l.length ∧ i = .int .i64 k ∧ Hid ((l.take k).all may = true) ∧ Below w.heap.size w wr) (fun i _ => l.length - (intOf i).toNat)
  case atStart => exact ⟨0, Nat.zero_le _, rfl, rfl, Below.refl _ _⟩
  case round =>
    obtain ⟨k, hk, rfl, HT, hbl⟩ := hrel
    by_cases hlt : k < l.length
    · obtain ⟨b, o, rfl, hb, hL⟩ := HL.out (ne_of_lt hlt)
      obtain ⟨e1, e2⟩ := (hL.on hb hbl) k hlt
      have i1 : (k : Int) < (l.length : Int) := by omega
      have i2 : (0 : Int) ≤ (k : Int) := by omega
      obtain ⟨z1, z2⟩ := HS.out _ (List.getElem_mem hlt)
      have HN : Hid (may l[k] = true → (l.take (k + 1)).all may = true) := fun h => by rw [all_next hlt HT.out]; exact h
      have HF : Hid (may l[k] = false → A = false) := fun h => by
        show A = false
        rw [← HA.out]
        exact all_not hlt h
      have HM : Hid (may l[k] = (Word.name (l[k]).1.data.toList && Word.value (l[k]).2.data.toList)) := rfl
      have H1 := fun W => name_any (l[k]).1 W (by omega)
      have H2 := fun W => value_any (l[k]).2 W (by omega)
      generalize l[k] = x at *
      generalize Word.name x.1.data.toList = p at *
      generalize Word.value x.2.data.toList = q at *
      have H1 := Lib.hid H1
      have H2 := Lib.hid H2
      clear hL hb HL HT HS
      have hz := hbl.size
      cases p
      · have HF2 := Lib.hid (HF.out HM.out)
        clear HF HN HM H2
        go_wp2_with (first
          | (go_at_call 116; refine (H1.out _).mono ?_; rintro e w' ⟨rfl, rfl⟩))
        go_ret
        exact ⟨ret_bool (HF2.out).symm, hbl.alloc hz _⟩
      · cases q
        · have HF2 := Lib.hid (HF.out HM.out)
          clear HF HN HM
          go_wp2_with (first
            | (go_at_call 116; refine (H1.out _).mono ?_; rintro e w' ⟨rfl, rfl⟩)
            | (go_at_call 117; refine (H2.out _).mono ?_; rintro e w' ⟨rfl, rfl⟩))
          go_ret
          exact ⟨ret_bool (HF2.out).symm, hbl.alloc hz _⟩
        · have HN2 := Lib.hid (HN.out HM.out)
          clear HF HN HM
          go_wp2_with (first
            | (go_at_call 116; refine (H1.out _).mono ?_; rintro e w' ⟨rfl, rfl⟩)
            | (go_at_call 117; refine (H2.out _).mono ?_; rintro e w' ⟨rfl, rfl⟩))
          exact ⟨⟨k + 1, by omega, by go_num, HN2, hbl.alloc hz _⟩, by simp [intOf]; omega⟩
    · have HE : Hid (A = true) := by
        have h1 := HT.out
        rw [List.take_of_length_le (by omega)] at h1
        show A = true
        rw [← HA.out]
        exact h1
      go_wp2_with fail
      go_ret
      exact ⟨ret_bool (HE.out).symm, hbl⟩
end Go.Proofs.YtehgpibngalhfaaGreatDoor
namespace Go.Proofs.YtehgpibngalhfaaGreatDoor
open Go Go.RowKit Go.Sort Tg
theorem order_take (l : List Tag) (k : Nat) (hk : k < l.length) : order (l.take (k + 1)) = Tg.step (order (l.take k)) l[k] := by
  rw [List.take_succ_eq_append_getElem hk, order_snoc]
/-- A row of one's own, up to some place. -/
theorem ownT_cut {w : World} {base g cap : Nat} {S : List Tag} (h : OwnT w base (.slice (some ⟨g, 0, none⟩) S.length cap) S) (j : Nat) (hj : j ≤ S.length) : w.ownsRow base 95 2 (.slice (some ⟨g, 0, none⟩) j cap) j (flat (S.take j)) := by
  obtain ⟨h1, h2⟩ := h
  have hl : (S.take j).length = j := by rw [List.length_take]; omega
  refine ⟨by rw [flat_len, hl], .inr ?_⟩
  rcases h2 with ⟨h0, _⟩ | ⟨g', cap', cur, hv, hb, hg, hc, hm, hs, ht⟩
  · cases h0
  · cases hv
    refine ⟨g, cap, cur, rfl, hb, hg, by omega, hm, hs, ?_⟩
    have e : flat S = flat (S.take j) ++ flat (S.drop j) := by rw [← flat_append, List.take_append_drop]
    have e2 : cur.toList.take (j * 2) = (cur.toList.take (S.length * 2)).take (j * 2) := by
      rw [List.take_take]
      congr 1
      omega
    rw [e2, ht, e, List.take_append_of_le_length (by rw [flat_len, hl]; exact Nat.le_refl _), List.take_of_length_le (by rw [flat_len, hl]; exact Nat.le_refl _)]
/-- .. and from some place on. -/
theorem lies_drop {w : World} {b o : Nat} {S : List Tag} (h : TLies w b o S) (j : Nat) : TLies w b (o + j * 2) (S.drop j) := by
  intro i hi
  have hi' : j + i < S.length := by rw [List.length_drop] at hi; omega
  obtain ⟨h1, h2⟩ := h (j + i) hi'
  rw [List.getElem_drop]
  rw [show o + j * 2 + i * 2 = o + (j + i) * 2 from by omega]
  exact ⟨h1, h2⟩
theorem drop_news {wr : World} {g : Nat} {S : List Tag} (h : TLies wr g 0 S) (hg : g < wr.heap.size) (j q : Nat) (o : Obj) : ∀ i u, (flat (S.drop j))[i]? = some u → ((wr.drewN q).alloc o).cell? ((⟨g, j * 2, none⟩ : Addr).add i) = some u := by
  intro i u hu
  have h2 := lies_drop h j
  rw [Nat.zero_add] at h2
  rw [addr_add, World.cell?_alloc_lt _ _ _ (show (⟨g, j * 2 + i, none⟩ : Addr).block < (wr.drewN q).heap.size from hg)]
  exact flat_cells h2 i u hu
theorem own_lies {w : World} {base g n cap : Nat} {S : List Tag} (h : w.ownsRow base 95 2 (.slice (some ⟨g, 0, none⟩) n cap) n (flat S)) (hn : n = S.length) : TLies w g 0 S := by
  subst hn
  rcases List.eq_nil_or_concat S with h0 | ⟨m, x, h0⟩
  · subst h0
    intro i hi
    cases hi
  · have hne : S ≠ [] := by rw [h0]; simp
    obtain ⟨a3, c3, he, _, hat⟩ := ownT_row h
    cases he
    obtain ⟨b3, o3, ha, _, hL3⟩ := hat hne
    cases ha
    exact hL3
/-- What stands behind 'rest := append([]Tag{}, out[at:]...)'. -/
theorem after17 {w wr w8 : World} {v8 : Value} {b o k g cap j q : Nat} {S : List Tag} {x : Tag} (hbl : Below w.heap.size w wr) (HO : OwnT wr w.heap.size (.slice (some ⟨g, 0, none⟩) S.length cap) S) (hg2 : g < wr.heap.size) (hb : b < wr.heap.size)
    (e1 : wr.cell? ⟨b, o + k * 2, none⟩ = some (.string x.1)) (e2 : wr.cell? ⟨b, o + k * 2 + 1, none⟩ = some (.string x.2))
    (hown : w8.ownsRow wr.heap.size 95 2 v8 (0 + (S.length - j)) ([] ++ flat (S.drop j))) (hgrow : ((wr.drewN q).alloc (Obj.cells #[] 95)).grownBy w8 (some wr.heap.size)) (hnil : v8 ≠ .slice none 0 0) :
    ∃ h cap8, v8 = .slice (some ⟨h, 0, none⟩) (S.length - j) cap8 ∧ wr.heap.size ≤ h ∧ h < w8.heap.size ∧ TLies w8 h 0 (S.drop j) ∧ OwnT w8 w.heap.size (.slice (some ⟨g, 0, none⟩) S.length cap) S ∧
      w8.cell? ⟨b, o + k * 2, none⟩ = some (.string x.1) ∧ w8.cell? ⟨b, o + k * 2 + 1, none⟩ = some (.string x.2) ∧ b < w8.heap.size ∧ Below w.heap.size w w8 := by
  rw [Nat.zero_add, List.nil_append] at hown
  have hz := hbl.size
  have d8 : Below w.heap.size w w8 := ((below_drewN hbl q).alloc hz _).grown hgrow (by simp; omega) (fun k hk => by cases hk; exact hz)
  have hsz : wr.heap.size ≤ w8.heap.size := by
    have h1 : ((wr.drewN q).alloc (Obj.cells #[] 95)).heap.size ≤ w8.heap.size := hgrow.size
    simp at h1
    omega
  obtain ⟨h, cap8, hv, hh1, hh2⟩ : ∃ h cap8, v8 = .slice (some ⟨h, 0, none⟩) (S.length - j) cap8 ∧ wr.heap.size ≤ h ∧ h < w8.heap.size := by
    rcases hown.2 with ⟨h0, _⟩ | ⟨h, cap8, cur, hv, hb, hg, _⟩
    · exact absurd h0 hnil
    · refine ⟨h, cap8, hv, hb, ?_⟩
      rcases Nat.lt_or_ge h w8.heap.size with hlt | hge
      · exact hlt
      · rw [Array.getElem?_eq_none hge] at hg; cases hg
  subst hv
  have far : ∀ p v, p.block < wr.heap.size → wr.cell? p = some v → w8.cell? p = some v := by
    intro p v hp hc
    rw [hgrow.cell_far p (by simp; omega) (by simp; omega), World.cell?_alloc_lt _ _ _ (show p.block < (wr.drewN q).heap.size from hp)]
    exact hc
  refine ⟨h, cap8, rfl, hh1, hh2, own_lies hown (by rw [List.length_drop]), ?_, far _ _ hb e1, far _ _ hb e2, by omega, d8⟩
  have hO : ((wr.drewN q).alloc (Obj.cells #[] 95)).ownsRow w.heap.size 95 2 (.slice (some ⟨g, 0, none⟩) S.length cap) S.length (flat S) := World.ownsRow.alloc (w := wr.drewN q) HO _
  exact hO.kept hgrow (Or.inr (by simp [Value.ownBlock]; omega))
theorem after17e {w wr : World} {b o k g cap : Nat} {S : List Tag} {x : Tag} (hbl : Below w.heap.size w wr) (HO : OwnT wr w.heap.size (.slice (some ⟨g, 0, none⟩) S.length cap) S) (hb : b < wr.heap.size)
    (e1 : wr.cell? ⟨b, o + k * 2, none⟩ = some (.string x.1)) (e2 : wr.cell? ⟨b, o + k * 2 + 1, none⟩ = some (.string x.2)) (q : Nat) :
    OwnT ((wr.drewN q).alloc (Obj.cells #[] 95)) w.heap.size (.slice (some ⟨g, 0, none⟩) S.length cap) S ∧
      ((wr.drewN q).alloc (Obj.cells #[] 95)).cell? ⟨b, o + k * 2, none⟩ = some (.string x.1) ∧ ((wr.drewN q).alloc (Obj.cells #[] 95)).cell? ⟨b, o + k * 2 + 1, none⟩ = some (.string x.2) ∧ b < ((wr.drewN q).alloc (Obj.cells #[] 95)).heap.size ∧ Below w.heap.size w ((wr.drewN q).alloc (Obj.cells #[] 95)) := by
  refine ⟨World.ownsRow.alloc (w := wr.drewN q) HO _, ?_, ?_, by simp; omega, (below_drewN hbl q).alloc hbl.size _⟩
  · rw [World.cell?_alloc_lt _ _ _ (show (⟨b, o + k * 2, none⟩ : Addr).block < (wr.drewN q).heap.size from hb)]
    exact e1
  · rw [World.cell?_alloc_lt _ _ _ (show (⟨b, o + k * 2 + 1, none⟩ : Addr).block < (wr.drewN q).heap.size from hb)]
    exact e2
theorem news_far {w8 w1 : World} {h : Nat} {R : List Tag} {o : Obj} {row : Option Nat} (hL : TLies w8 h 0 R) (hh : h < w8.heap.size) (hg : (w8.alloc o).drew.grownBy w1 row) (hne : some h ≠ row) : ∀ i u, (flat R)[i]? = some u → w1.cell? ((⟨h, 0, none⟩ : Addr).add i) = some u := by
  intro i u hu
  rw [addr_add, hg.cell_far _ (by simp; omega) hne]
  show (w8.alloc o).cell? _ = _
  rw [World.cell?_alloc_lt _ _ _ (show (⟨h, 0 + i, none⟩ : Addr).block < w8.heap.size from hh)]
  exact flat_cells hL i u hu
theorem far1 {w8 w1 : World} {o : Obj} {row : Option Nat} {b off : Nat} {v : Value} (hg : (w8.alloc o).drew.grownBy w1 row) (hb : b < w8.heap.size) (hne : some b ≠ row) (h : w8.cell? ⟨b, off, none⟩ = some v) : w1.cell? ⟨b, off, none⟩ = some v := by
  rw [hg.cell_far _ (by simp; omega) hne]
  show (w8.alloc o).cell? _ = _
  rw [World.cell?_alloc_lt _ _ _ (show (⟨b, off, none⟩ : Addr).block < w8.heap.size from hb)]
  exact h
theorem far2 {w1 w1' w2 : World} {row : Option Nat} {b off : Nat} {v : Value} (hg : w1'.grownBy w2 row) (hh : w1'.heap = w1.heap) (hne : some b ≠ row) (h : w1.cell? ⟨b, off, none⟩ = some v) : w2.cell? ⟨b, off, none⟩ = some v := by
  have hb := World.block_lt_of_cell? w1 _ h
  rw [hg.cell_far _ (by rw [hh]; exact hb) hne]
  rw [show w1'.cell? ⟨b, off, none⟩ = w1.cell? ⟨b, off, none⟩ from by unfold World.cell?; rw [hh]]
  exact h
/-- What stands behind 'out = append(append(out[:at], x), rest...)'. -/
theorem after18 {w w8 w1 w1' w2 : World} {v0 v1 v2 : Value} {o : Obj} {j : Nat} {S : List Tag} {x : Tag} (hj : j = pos x S) (d8 : Below w.heap.size w w8) (h0 : ∀ k, v0.ownBlock = some k → w.heap.size ≤ k)
    (hown1 : w1.ownsRow w.heap.size 95 2 v1 (j + 1) (flat (S.take j) ++ [.string x.1, .string x.2])) (hgrow1 : (w8.alloc o).drew.grownBy w1 v0.ownBlock)
    (hown2 : w2.ownsRow w.heap.size 95 2 v2 (j + 1 + (S.length - j)) (flat (S.take j) ++ [.string x.1, .string x.2] ++ flat (S.drop j))) (hgrow2 : w1'.grownBy w2 v1.ownBlock) (hh : w1'.heap = w1.heap) (ho : w1'.os = w1.os) (ht : w1'.tape = w1.tape) (hu : w1'.output = w1.output) : OwnT w2 w.heap.size v2 (put x S) ∧ Below w.heap.size w w2 := by
  have hz := d8.size
  have hp := pos_le x S
  refine ⟨?_, ?_⟩
  · show w2.ownsRow w.heap.size 95 2 v2 (put x S).length (flat (put x S))
    have e1 : flat (put x S) = flat (S.take j) ++ [.string x.1, .string x.2] ++ flat (S.drop j) := by
      unfold put
      rw [← hj, flat_append, List.append_assoc]
      rfl
    have e2 : (put x S).length = j + 1 + (S.length - j) := by rw [put_len]; omega
    rw [e1, e2]
    exact hown2
  · have d1 : Below w.heap.size w w1 := ((d8.alloc hz _).drew).grown hgrow1 (by simp; omega) h0
    have d1' : Below w.heap.size w w1' := ⟨ho.trans d1.os, ht.trans d1.tape, hu.trans d1.output, by rw [hh]; exact d1.size, fun b hb => by rw [hh]; exact d1.block b hb⟩
    exact d1'.grown hgrow2 d1'.size (fun k hk => (hown1.lt k hk).1)
set_option maxRecDepth 100000 in
set_option maxHeartbeats 2000000 in
theorem refCanon_any (v : Value) (l : List Tag) (w : World) (h : TRow w v l) (hn : l.length ≤ 1000) (hs : ∀ x ∈ l, x.1.size ≤ 281474976710656 ∧ x.2.size ≤ 281474976710656) :
    Calls Tryz.prog 77 #[v] w fun e w' => (∃ v', e = .returned (.tuple #[v', .int .i64 (canon l).2]) ∧ TRow w' v' (canon l).1) ∧ Below w.heap.size w w' := by
  obtain ⟨a, c, rfl, hc, hl⟩ := h
  obtain ⟨i0, hi, hz0, hz1, hz2⟩ := info41
  have HI := Lib.hid (And.intro hi (And.intro hz0 (And.intro hz1 hz2)))
  clear hi hz0 hz1 hz2
  have HL := Lib.hid hl
  have HS := Lib.hid hs
  clear hl hs
  obtain ⟨C, HC⟩ : ∃ C, Hid (canon l = C) := ⟨_, rfl⟩
  rw [HC.out]
  go_enter Tryz.func77, Tryz.ntmps77
  go_wp2
  go_loopw [4] (fun i wr => ∃ (k : Nat), k ≤ l.length ∧ i = .int .i64 k ∧ Hid ((l.take k).all may = true) ∧ Below w.heap.size w wr) (fun i _ => l.length - (intOf i).toNat)
  case atStart => exact ⟨0, Nat.zero_le _, rfl, rfl, Below.refl _ _⟩
  case round =>
    obtain ⟨k, hk, rfl, HT, hbl⟩ := hrel
    by_cases hlt : k < l.length
    · obtain ⟨b, o, rfl, hb, hL⟩ := HL.out (ne_of_lt hlt)
      obtain ⟨e1, e2⟩ := (hL.on hb hbl) k hlt
      have i1 : (k : Int) < (l.length : Int) := by omega
      have i2 : (0 : Int) ≤ (k : Int) := by omega
      obtain ⟨z1, z2⟩ := HS.out _ (List.getElem_mem hlt)
      have HN : Hid (may l[k] = true → (l.take (k + 1)).all may = true) := fun h => by rw [all_next hlt HT.out]; exact h
      have HF : Hid (may l[k] = false → C = ([], 2)) := fun h => by
        show C = _
        rw [← HC.out]
        exact canon_form (all_not hlt h)
      have HB := Lib.hid (fun W => may_any l[k] W z1 z2)
      generalize l[k] = x at *
      clear hL hb HL HT HS HI
      cases hm : may x
      · rw [hm] at HB
        have HF2 := Lib.hid (HF.out hm)
        clear HF HN
        go_wp2_with (first | (go_at_call 94; refine (HB.out _).mono ?_; rintro e w1 ⟨rfl, q, os, rfl⟩))
        go_ret2
        rw [HF2.out]
        exact ⟨⟨_, rfl, TRow.nil _⟩, hbl.trans ((below_grow wr q os).mono hbl.size)⟩
      · rw [hm] at HB
        have HN2 := Lib.hid (HN.out hm)
        clear HF HN
        go_wp2_with (first | (go_at_call 94; refine (HB.out _).mono ?_; rintro e w1 ⟨rfl, q, os, rfl⟩))
        exact ⟨⟨k + 1, by omega, by go_num, HN2, hbl.trans ((below_grow wr q os).mono hbl.size)⟩, by simp [intOf]; omega⟩
    · have HA : Hid (l.all may = true) := by
        have h1 := HT.out
        rw [List.take_of_length_le (by omega)] at h1
        exact h1
      clear HT
      by_cases h4 : 4 < l.length
      · have HM := Lib.hid ((HC.out).symm.trans (canon_many HA.out h4))
        clear HA HL HS HI
        go_wp2_with fail
        go_ret2
        rw [HM.out]
        exact ⟨⟨_, rfl, TRow.nil _⟩, hbl⟩
      · have HO4 := Lib.hid ((HC.out).symm.trans (canon_order HA.out (by omega)))
        clear HA HC
        go_wp2_with fail
        go_loopw [5, 6] (fun out i wr => ∃ (k : Nat) (S : List Tag), k ≤ l.length ∧ Hid (S.length = k) ∧ i = .int .i64 k ∧ (k = 0 → out = .slice none 0 0) ∧ Hid (order (l.take k) = some S) ∧ Hid (OwnT wr w.heap.size out S) ∧ Below w.heap.size w wr) (fun _ i _ => l.length - (intOf i).toNat)
        case atStart => exact ⟨0, [], Nat.zero_le _, rfl, rfl, fun _ => rfl, rfl, ownT_nil _ _, hbl⟩
        case round =>
          obtain ⟨k, S, hk, hSk, rfl, hnil, HT, HO, hbl⟩ := hrel
          by_cases hlt : k < l.length
          · obtain ⟨b, o, rfl, hb, hL⟩ := HL.out (ne_of_lt hlt)
            have hb' : b < wr.heap.size := Nat.lt_of_lt_of_le hb hbl.size
            obtain ⟨e1, e2⟩ := (hL.on hb hbl) k hlt
            have i1 : (k : Int) < (l.length : Int) := by omega
            have i2 : (0 : Int) ≤ (k : Int) := by omega
            have HR := Lib.hid (order_take l k hlt)
            have mx := mixed
            generalize l[k] = x at *
            clear hL HL HS
            have hz := hbl.size
            have hS4 : S.length ≤ 4 := by rw [hSk.out]; omega
            rcases Nat.eq_zero_or_pos k with hk0 | hk0
            · as_aux_lemma =>
                have hs0 : S = [] := List.length_eq_zero_iff.1 (by rw [hSk.out]; exact hk0)
                subst hs0
                have h5 := hnil hk0
                subst h5
                have HR2 : Hid (order (l.take (k + 1)) = some [x]) := by
                  show _ = _
                  rw [HR.out, HT.out]
                  rfl
                have hPL : Hid ((put x []).length = k + 1) := by show _ = _; rw [hk0]; rfl
                clear hk0 hnil HR HT HO hSk
                go_wp2_with fail
                refine wp_loop_rounds 1 ?_
                rw [rounds_succ]
                go_wp2_with fail
                go_quiet (fail)
                generalize nq = n1
                go_wp2_with fail
                go_quiet (fail)
                go_wp2_with fail
                have f1 : ((wr.drewN (n1 + nq)).alloc (Obj.cells #[] 95)).cell? ⟨b, o + k * 2, none⟩ = some (.string x.1) := by
                  rw [World.cell?_alloc_lt _ _ _ (show (⟨b, o + k * 2, none⟩ : Addr).block < (wr.drewN (n1 + nq)).heap.size from hb')]
                  exact e1
                have f2 : ((wr.drewN (n1 + nq)).alloc (Obj.cells #[] 95)).cell? ⟨b, o + k * 2 + 1, none⟩ = some (.string x.2) := by
                  rw [World.cell?_alloc_lt _ _ _ (show (⟨b, o + k * 2 + 1, none⟩ : Addr).block < (wr.drewN (n1 + nq)).heap.size from hb')]
                  exact e2
                have hb8 : b < ((wr.drewN (n1 + nq)).alloc (Obj.cells #[] 95)).heap.size := by simp; omega
                have d8 : Below w.heap.size w ((wr.drewN (n1 + nq)).alloc (Obj.cells #[] 95)) := (below_drewN hbl _).alloc hz _
                have hw8 : wr.heap.size < ((wr.drewN (n1 + nq)).alloc (Obj.cells #[] 95)).heap.size := by simp
                clear e1 e2 hb'
                generalize (wr.drewN (n1 + nq)).alloc (Obj.cells #[] 95) = w8 at *
                have hd8 := d8.size
                go_region_held3 (fun w' => w'.cell? ⟨b, o + k * 2, none⟩ = some (.string x.1) ∧ w'.cell? ⟨b, o + k * 2 + 1, none⟩ = some (.string x.2))
                  (first
                    | (go_split_ands; exact ⟨far2 hgrow2 rfl (fun e => by have := (hown1.lt b e.symm).1; omega) (by assumption), far2 hgrow2 rfl (fun e => by have := (hown1.lt b e.symm).1; omega) (by assumption)⟩)
                    | (go_split_ands; exact ⟨far1 hgrow1 hb8 (by simp [Value.ownBlock]) (by assumption), far1 hgrow1 hb8 (by simp [Value.ownBlock]) (by assumption)⟩)
                    | go_keep)
                  (first
                    | (refine step_append_own _ (by rfl) _ _ _ (by rfl) w.heap.size 95 i0 _ 2 32 Tryz.underlying82 HI.out.1 HI.out.2.1 HI.out.2.2.1 HI.out.2.2.2 rfl (by omega) (.slice none 0 0) 0 [] (by rfl) (World.ownsRow_nil _ _ _ _) ⟨w8.heap.size, 0, none⟩ 1 1 [.string x.1, .string x.2] (by rfl) (by rfl) (World.news_of_block (cs := #[.string x.1, .string x.2]) (t := 95) (fr := (0, 0)) (heap_alloc_new w8 _)) (one1T x) (by unfold maxLen; omega) (by omega) (by simp; omega) ?_; intro v1 w1 hown1 hgrow1 hnil1)
                    | (refine step_append_own _ (by rfl) _ _ _ (by rfl) w.heap.size 95 i0 _ 2 32 Tryz.underlying82 HI.out.1 HI.out.2.1 HI.out.2.2.1 HI.out.2.2.2 rfl (by omega) v1 (0 + 1) ([] ++ [.string x.1, .string x.2]) (by rfl) hown1 ⟨wr.heap.size, 0, none⟩ 0 0 [] (by rfl) (by rfl) (fun i u hu => by simp at hu) (fun u hu => by cases hu) (by unfold maxLen; omega) (by omega) (by have := hgrow1.size; simp at this ⊢; omega) ?_; intro v2 w2 hown2 hgrow2 hnil2))
                obtain ⟨HO2, d2⟩ := after18 (S := []) (j := 0) (x := x) rfl d8 (v0 := .slice none 0 0) (fun k hk => by cases hk) hown1 hgrow1 hown2 hgrow2 rfl rfl rfl rfl
                have HO2 := Lib.hid HO2
                clear hown1 hown2 hgrow1 hgrow2 hnil1 hnil2
                go_wp2_with fail
                exact ⟨⟨k + 1, _, by omega, hPL, by go_num, fun e => absurd e (Nat.succ_ne_zero k), HR2, HO2, d2⟩, by simp [intOf]; omega⟩
            · obtain ⟨g, cap, hv, hg1, hg2, hcap⟩ : ∃ g cap, u5 = .slice (some ⟨g, 0, none⟩) S.length cap ∧ w.heap.size ≤ g ∧ g < wr.heap.size ∧ S.length ≤ cap := by
                have hSl := hSk.out
                rcases HO.out.2 with ⟨_, hz⟩ | ⟨g, cap, cur, hv, hb, hg, hc, _⟩
                · omega
                · refine ⟨g, cap, hv, hb, ?_, hc⟩
                  rcases Nat.lt_or_ge g wr.heap.size with hlt | hge
                  · exact hlt
                  · rw [Array.getElem?_eq_none hge] at hg; cases hg
              subst hv
              have hLS : TLies wr g 0 S := by
                obtain ⟨a3, c3, he, hc3, hat⟩ := ownT_row HO.out
                cases he
                obtain ⟨b3, o3, ha, _, hL3⟩ := hat (ne_of_lt (k := 0) (by rw [hSk.out]; exact hk0))
                cases ha
                exact hL3
              have HLS := Lib.hid hLS
              clear hLS hk0 hnil
              go_wp2_with fail
              go_loopw [7] (fun at' wr2 => ∃ (j nq : Nat), j ≤ S.length ∧ at' = .int .i64 j ∧ wr2 = wr.drewN nq ∧ Hid (∀ i (h : i < S.length), i < j → lt S[i] x = true)) (fun i _ => S.length - (intOf i).toNat)
              case atStart => exact ⟨0, 0, Nat.zero_le _, rfl, rfl, fun _ _ h => absurd h (Nat.not_lt_zero _)⟩
              case round =>
                obtain ⟨j, n0, hj, rfl, rfl, HJ⟩ := hrel
                have j2 : (0 : Int) ≤ (j : Int) := by omega
                have j4 : (j : Int) ≤ (cap : Int) := by omega
                have j5 : (j : Int) ≤ (S.length : Int) := by omega
                by_cases hjl : j < S.length
                · obtain ⟨f1, f2⟩ := HLS.out j hjl
                  rw [Nat.zero_add] at f1 f2
                  have j1 : (j : Int) < (S.length : Int) := by omega
                  have HJl := Lib.hid hjl
                  have HQ : Hid (Op.bytesLess (S[j]).1.toList x.1.toList = lt S[j] x) := by
                    show _ = _
                    rw [ByteArray.toList_eq, ByteArray.toList_eq]; rfl
                  cases hq : lt S[j] x
                  · as_aux_lemma =>
                      have hq' := HQ.out.trans hq
                      have HP : Hid (j = pos x S) := pos_eq hj (fun i h hi => HJ.out i h hi) (fun _ => hq)
                      have HCl := Lib.hid (clash_at HP.out hjl)
                      have HE : Hid (((S[j]).1.toList == x.1.toList) = decide (nm S[j] = nm x)) := by
                        show _ = _
                        rw [ByteArray.toList_eq, ByteArray.toList_eq, Bool.eq_iff_iff, beq_iff_eq, decide_eq_true_eq]
                        rfl
                      generalize S[j] = y at *
                      have HDd : Hid (decide (nm y = nm x) = clash x S) := (HCl.out).symm
                      have HX : Hid (clash x S = true → C = ([], 5)) := fun h => by
                        show C = _
                        rw [HO4.out, order_none (k := k + 1) (by rw [HR.out, HT.out, step_some, h]; rfl)]
                      have HR4 : Hid (clash x S = false → order (l.take (k + 1)) = some (put x S)) := fun h => by
                        show _ = _
                        rw [HR.out, HT.out, step_some, h]
                        rfl
                      have HPL : Hid ((put x S).length = k + 1) := by show _ = _; rw [put_len, hSk.out]
                      clear hq HQ HR HT HJ HCl
                      have hcj : ¬ cap = j := by omega
                      cases hcl : clash x S
                      · as_aux_lemma =>
                          have hq2 : (y.1.toList == x.1.toList) = false := by rw [HE.out, HDd.out, hcl]
                          have HR3 := Lib.hid (HR4.out hcl)
                          clear hcl HX HR4 HDd HE
                          go_wp2_with fail
                          go_quiet (fail)
                          go_wp2_with fail
                          go_quiet (fail)
                          go_wp2_with (first | (at_builtin; refine wpList_append_own _ rfl _ _ 82 rfl wr.heap.size 95 i0 (.agg #[.string ⟨#[]⟩, .string ⟨#[]⟩]) 2 32 Tryz.underlying82 HI.out.1 HI.out.2.1 HI.out.2.2.1 HI.out.2.2.2 rfl (by decide) _ _ _ rfl (World.ownsRow_made (wr.drewN _) #[] 0 (Nat.le_refl _) (Nat.zero_le _) (by simp)) ⟨g, j * 2, none⟩ (S.length - j) _ (flat (S.drop j)) rfl (by rw [flat_len, List.length_drop]) (drop_news HLS.out hg2 j _ _) (flat_one _) (by unfold maxLen; omega) (by omega) (by simp) ?_; intro v8 w8 hown8 hgrow8 hnil8))
                          obtain ⟨h8, cap8, rfl, hh1, hh2, hL8, HO8, f1, f2, hb8, d8⟩ := after17 hbl HO.out hg2 hb' e1 e2 hown8 hgrow8 (fun e => by have := (hnil8.1 e).1; cases this)
                          have HO8 := Lib.hid HO8
                          have HL8 := Lib.hid hL8
                          have hd8 := d8.size
                          clear hown8 hgrow8 hnil8 hL8 e1 e2 HLS HO hb'
                          go_wp2_with fail
                          go_region_held3 (fun w' => w'.cell? ⟨b, o + k * 2, none⟩ = some (.string x.1) ∧ w'.cell? ⟨b, o + k * 2 + 1, none⟩ = some (.string x.2))
                            (first
                              | (go_split_ands; exact ⟨far2 hgrow2 rfl (fun e => by have := (hown1.lt b e.symm).1; omega) (by assumption), far2 hgrow2 rfl (fun e => by have := (hown1.lt b e.symm).1; omega) (by assumption)⟩)
                              | (go_split_ands; exact ⟨far2 hgrow2 rfl (fun e => by have := (hown1.lt b e.symm).1; omega) (far1 hgrow1 hb8 (by simp [Value.ownBlock]; omega) (by assumption)), far2 hgrow2 rfl (fun e => by have := (hown1.lt b e.symm).1; omega) (far1 hgrow1 hb8 (by simp [Value.ownBlock]; omega) (by assumption))⟩)
                              | (go_split_ands; exact ⟨far1 hgrow1 hb8 (by simp [Value.ownBlock]; omega) (by assumption), far1 hgrow1 hb8 (by simp [Value.ownBlock]; omega) (by assumption)⟩)
                              | go_keep)
                            (first
                              | (refine step_append_own _ (by rfl) _ _ _ (by rfl) w.heap.size 95 i0 _ 2 32 Tryz.underlying82 HI.out.1 HI.out.2.1 HI.out.2.2.1 HI.out.2.2.2 rfl (by omega) (.slice (some ⟨g, 0, none⟩) j cap) j (flat (S.take j)) (by rfl) (((ownT_cut HO8.out j hj).alloc _).drew) ⟨w8.heap.size, 0, none⟩ 1 1 [.string x.1, .string x.2] (by rfl) (by rfl) (World.news_of_block (cs := #[.string x.1, .string x.2]) (t := 95) (fr := (0, 0)) (heap_alloc_new w8 _)) (one1T x) (by unfold maxLen; omega) (by omega) (by simp; omega) ?_; intro v1 w1 hown1 hgrow1 hnil1)
                              | (refine step_append_own _ (by rfl) _ _ _ (by rfl) w.heap.size 95 i0 _ 2 32 Tryz.underlying82 HI.out.1 HI.out.2.1 HI.out.2.2.1 HI.out.2.2.2 rfl (by omega) v1 (j + 1) (flat (S.take j) ++ [.string x.1, .string x.2]) (by rfl) hown1 ⟨h8, 0, none⟩ (S.length - j) cap8 (flat (S.drop j)) (by rfl) (by rw [flat_len, List.length_drop]) (news_far HL8.out hh2 hgrow1 (by simp [Value.ownBlock]; omega)) (flat_one _) (by unfold maxLen; omega) (by omega) (by have := hgrow1.size; simp at this ⊢; omega) ?_; intro v2 w2 hown2 hgrow2 hnil2))
                          obtain ⟨HO2, d2⟩ := after18 HP.out d8 (v0 := .slice (some ⟨g, 0, none⟩) j cap) (fun k hk => by cases hk; exact hg1) hown1 hgrow1 hown2 hgrow2 rfl rfl rfl rfl
                          have HO2 := Lib.hid HO2
                          clear hown1 hown2 hgrow1 hgrow2 hnil1 hnil2 HO8 HL8
                          go_wp2_with fail
                          exact ⟨⟨k + 1, _, by omega, HPL, by go_num, fun e => absurd e (Nat.succ_ne_zero k), HR3, HO2, d2⟩, by simp [intOf]; omega⟩
                      · as_aux_lemma =>
                          have hq2 : (y.1.toList == x.1.toList) = true := by rw [HE.out, HDd.out, hcl]
                          have HX2 := Lib.hid (HX.out hcl)
                          clear hcl HX HR4 HDd HE HO4
                          go_wp2_with fail
                          go_quiet (fail)
                          generalize nq = n1
                          go_wp2_with fail
                          go_quiet (fail)
                          go_wp2_with fail
                          go_ret2
                          rw [HX2.out]
                          exact ⟨⟨_, rfl, TRow.nil _⟩, below_drewN (below_drewN (below_drewN hbl _) _) _⟩
                  · as_aux_lemma =>
                      have hq' := HQ.out.trans hq
                      have HJ2 : Hid (∀ i (h : i < S.length), i < j + 1 → lt S[i] x = true) := by
                        intro i h hi
                        rcases Nat.lt_or_ge i j with g1 | g1
                        · exact HJ.out i h g1
                        · have : i = j := by omega
                          subst this
                          exact hq
                      generalize S[j] = y at *
                      clear hq HQ
                      go_wp2_with fail
                      go_quiet (fail)
                      go_wp2_with fail
                      exact ⟨⟨j + 1, _, by have := HJl.out; omega, by go_num, rfl, HJ2⟩, by have := HJl.out; simp [intOf]; omega⟩
                · as_aux_lemma =>
                    have j1 : decide ((j : Int) < (S.length : Int)) = false := decide_eq_false (by omega)
                    have j3 : decide (j < S.length) = false := decide_eq_false (by omega)
                    have HP : Hid (j = pos x S) := pos_eq hj (fun i h hi => HJ.out i h hi) (fun h => absurd h hjl)
                    have HCl := Lib.hid (clash_end HP.out hjl)
                    have HR3 : Hid (order (l.take (k + 1)) = some (put x S)) := by
                      show _ = _
                      rw [HR.out, HT.out, step_some, HCl.out]
                      rfl
                    have HPL : Hid ((put x S).length = k + 1) := by show _ = _; rw [put_len, hSk.out]
                    have HDr := Lib.hid (show S.drop j = [] from List.drop_of_length_le (by omega))
                    clear HR HT HCl HJ
                    by_cases hcj : cap = j
                    · as_aux_lemma =>
                        have hcj2 : j = cap := hcj.symm
                        clear hcj
                        subst hcj2
                        go_wp2_with fail
                        go_quiet (fail)
                        generalize nq = n1
                        go_wp2_with fail
                        go_quiet (fail)
                        go_wp2_with fail
                        obtain ⟨HO8, f1, f2, hb8, d8⟩ := after17e hbl HO.out hb' e1 e2 (n0 + n1 + nq)
                        have hw8 : wr.heap.size < ((wr.drewN (n0 + n1 + nq)).alloc (Obj.cells #[] 95)).heap.size := by simp
                        clear e1 e2 HLS HO hb'
                        generalize (wr.drewN (n0 + n1 + nq)).alloc (Obj.cells #[] 95) = w8 at *
                        have HO8 := Lib.hid HO8
                        have hd8 := d8.size
                        go_region_held3 (fun w' => w'.cell? ⟨b, o + k * 2, none⟩ = some (.string x.1) ∧ w'.cell? ⟨b, o + k * 2 + 1, none⟩ = some (.string x.2))
                          (first
                            | (go_split_ands; exact ⟨far2 hgrow2 rfl (fun e => by have := (hown1.lt b e.symm).1; omega) (by assumption), far2 hgrow2 rfl (fun e => by have := (hown1.lt b e.symm).1; omega) (by assumption)⟩)
                            | (go_split_ands; exact ⟨far1 hgrow1 hb8 (by simp [Value.ownBlock]; omega) (by assumption), far1 hgrow1 hb8 (by simp [Value.ownBlock]; omega) (by assumption)⟩)
                            | go_keep)
                          (first
                            | (refine step_append_own _ (by rfl) _ _ _ (by rfl) w.heap.size 95 i0 _ 2 32 Tryz.underlying82 HI.out.1 HI.out.2.1 HI.out.2.2.1 HI.out.2.2.2 rfl (by omega) (.slice (some ⟨g, 0, none⟩) j j) j (flat (S.take j)) (by rfl) (((ownT_cut HO8.out j hj).alloc _).drew) ⟨w8.heap.size, 0, none⟩ 1 1 [.string x.1, .string x.2] (by rfl) (by rfl) (World.news_of_block (cs := #[.string x.1, .string x.2]) (t := 95) (fr := (0, 0)) (heap_alloc_new w8 _)) (one1T x) (by unfold maxLen; omega) (by omega) (by simp; omega) ?_; intro v1 w1 hown1 hgrow1 hnil1)
                            | (refine step_append_own _ (by rfl) _ _ _ (by rfl) w.heap.size 95 i0 _ 2 32 Tryz.underlying82 HI.out.1 HI.out.2.1 HI.out.2.2.1 HI.out.2.2.2 rfl (by omega) v1 (j + 1) ((flat (S.take j)) ++ [.string x.1, .string x.2]) (by rfl) hown1 ⟨wr.heap.size, 0, none⟩ 0 0 [] (by rfl) (by rfl) (fun i u hu => by simp at hu) (fun u hu => by cases hu) (by unfold maxLen; omega) (by omega) (by have := hgrow1.size; simp at this ⊢; omega) ?_; intro v2 w2 hown2 hgrow2 hnil2))
                        have hSj : S.length - j = 0 := by omega
                        obtain ⟨HO2, d2⟩ := after18 HP.out d8 (v0 := .slice (some ⟨g, 0, none⟩) j j) (fun k hk => by cases hk; exact hg1) hown1 hgrow1 (by rw [hSj, HDr.out]; exact hown2) hgrow2 rfl rfl rfl rfl
                        have HO2 := Lib.hid HO2
                        clear hown1 hown2 hgrow1 hgrow2 hnil1 hnil2 HO8
                        go_wp2_with fail
                        exact ⟨⟨k + 1, _, by omega, HPL, by go_num, fun e => absurd e (Nat.succ_ne_zero k), HR3, HO2, d2⟩, by simp [intOf]; omega⟩
                    · as_aux_lemma =>
                        clear HDr
                        go_wp2_with fail
                        go_quiet (fail)
                        go_wp2_with fail
                        go_quiet (fail)
                        go_wp2_with (first | (at_builtin; refine wpList_append_own _ rfl _ _ 82 rfl wr.heap.size 95 i0 (.agg #[.string ⟨#[]⟩, .string ⟨#[]⟩]) 2 32 Tryz.underlying82 HI.out.1 HI.out.2.1 HI.out.2.2.1 HI.out.2.2.2 rfl (by decide) _ _ _ rfl (World.ownsRow_made (wr.drewN _) #[] 0 (Nat.le_refl _) (Nat.zero_le _) (by simp)) ⟨g, j * 2, none⟩ (S.length - j) _ (flat (S.drop j)) rfl (by rw [flat_len, List.length_drop]) (drop_news HLS.out hg2 j _ _) (flat_one _) (by unfold maxLen; omega) (by omega) (by simp) ?_; intro v8 w8 hown8 hgrow8 hnil8))
                        obtain ⟨h8, cap8, rfl, hh1, hh2, hL8, HO8, f1, f2, hb8, d8⟩ := after17 hbl HO.out hg2 hb' e1 e2 hown8 hgrow8 (fun e => by have := (hnil8.1 e).1; cases this)
                        have HO8 := Lib.hid HO8
                        have HL8 := Lib.hid hL8
                        have hd8 := d8.size
                        clear hown8 hgrow8 hnil8 hL8 e1 e2 HLS HO hb'
                        go_wp2_with fail
                        go_region_held3 (fun w' => w'.cell? ⟨b, o + k * 2, none⟩ = some (.string x.1) ∧ w'.cell? ⟨b, o + k * 2 + 1, none⟩ = some (.string x.2))
                          (first
                            | (go_split_ands; exact ⟨far2 hgrow2 rfl (fun e => by have := (hown1.lt b e.symm).1; omega) (by assumption), far2 hgrow2 rfl (fun e => by have := (hown1.lt b e.symm).1; omega) (by assumption)⟩)
                            | (go_split_ands; exact ⟨far2 hgrow2 rfl (fun e => by have := (hown1.lt b e.symm).1; omega) (far1 hgrow1 hb8 (by simp [Value.ownBlock]; omega) (by assumption)), far2 hgrow2 rfl (fun e => by have := (hown1.lt b e.symm).1; omega) (far1 hgrow1 hb8 (by simp [Value.ownBlock]; omega) (by assumption))⟩)
                            | (go_split_ands; exact ⟨far1 hgrow1 hb8 (by simp [Value.ownBlock]; omega) (by assumption), far1 hgrow1 hb8 (by simp [Value.ownBlock]; omega) (by assumption)⟩)
                            | go_keep)
                          (first
                            | (refine step_append_own _ (by rfl) _ _ _ (by rfl) w.heap.size 95 i0 _ 2 32 Tryz.underlying82 HI.out.1 HI.out.2.1 HI.out.2.2.1 HI.out.2.2.2 rfl (by omega) (.slice (some ⟨g, 0, none⟩) j cap) j (flat (S.take j)) (by rfl) (((ownT_cut HO8.out j hj).alloc _).drew) ⟨w8.heap.size, 0, none⟩ 1 1 [.string x.1, .string x.2] (by rfl) (by rfl) (World.news_of_block (cs := #[.string x.1, .string x.2]) (t := 95) (fr := (0, 0)) (heap_alloc_new w8 _)) (one1T x) (by unfold maxLen; omega) (by omega) (by simp; omega) ?_; intro v1 w1 hown1 hgrow1 hnil1)
                            | (refine step_append_own _ (by rfl) _ _ _ (by rfl) w.heap.size 95 i0 _ 2 32 Tryz.underlying82 HI.out.1 HI.out.2.1 HI.out.2.2.1 HI.out.2.2.2 rfl (by omega) v1 (j + 1) (flat (S.take j) ++ [.string x.1, .string x.2]) (by rfl) hown1 ⟨h8, 0, none⟩ (S.length - j) cap8 (flat (S.drop j)) (by rfl) (by rw [flat_len, List.length_drop]) (news_far HL8.out hh2 hgrow1 (by simp [Value.ownBlock]; omega)) (flat_one _) (by unfold maxLen; omega) (by omega) (by have := hgrow1.size; simp at this ⊢; omega) ?_; intro v2 w2 hown2 hgrow2 hnil2))
                        obtain ⟨HO2, d2⟩ := after18 HP.out d8 (v0 := .slice (some ⟨g, 0, none⟩) j cap) (fun k hk => by cases hk; exact hg1) hown1 hgrow1 hown2 hgrow2 rfl rfl rfl rfl
                        have HO2 := Lib.hid HO2
                        clear hown1 hown2 hgrow1 hgrow2 hnil1 hnil2 HO8 HL8
                        go_wp2_with fail
                        exact ⟨⟨k + 1, _, by omega, HPL, by go_num, fun e => absurd e (Nat.succ_ne_zero k), HR3, HO2, d2⟩, by simp [intOf]; omega⟩
          · have hk' : k = l.length := by omega
            have HE := Lib.hid HT.out
            rw [List.take_of_length_le (by omega)] at HE
            have HF := Lib.hid HO4.out
            rw [HE.out] at HF
            have hr := ownT_row HO.out
            clear HE HO4 HO HT hk' HL HS HI
            go_wp2_with fail
            go_ret2
            rw [HF.out]
            exact ⟨⟨_, rfl, hr⟩, hbl⟩
end Go.Proofs.YtehgpibngalhfaaGreatDoor
namespace Go.Proofs.YtehgpibngalhfaaGreatDoor
open Go Go.RowKit Go.Sort Tg
set_option maxRecDepth 100000 in
set_option maxHeartbeats 1000000 in
theorem insertion_none (p : Option Addr) (cap : Nat) (fv : Value) (w : World) :
    Calls Tryz.prog 138 #[.slice p 0 cap, .int .i64 0, .int .i64 0, fv] w fun e w' => e = .returned (.tuple #[]) ∧ w' = w := by
  go_enter Tryz.func138, Tryz.ntmps138
  go_wp2
  refine wp_loop_rounds 1 ?_
  rw [rounds_succ]
  go_wp2
  go_end0
  exact ⟨rfl, rfl⟩
set_option maxRecDepth 100000 in
set_option maxHeartbeats 1000000 in
theorem pdq_none (p : Option Addr) (cap : Nat) (lim : Int) (fv : Value) (w : World) :
    Calls Tryz.prog 118 #[.slice p 0 cap, .int .i64 0, .int .i64 0, .int .i64 lim, fv] w fun e w' => e = .returned (.tuple #[]) ∧ w' = w := by
  go_enter Tryz.func118, Tryz.ntmps118
  go_wp2
  refine wp_loop_rounds 1 ?_
  rw [rounds_succ]
  go_wp2_with (go_at_call 138; refine (insertion_none p cap fv _).mono ?_; rintro e w' ⟨rfl, rfl⟩)
  (try simp only [Exit.inBlock, Exit.then]); refine bodyPost_ret (results_none rfl _ _ _) rfl ?_
  exact ⟨rfl, rfl⟩
set_option maxRecDepth 100000 in
set_option maxHeartbeats 1000000 in
theorem sort_none (p : Option Addr) (cap : Nat) (fv : Value) (w : World) :
    Calls Tryz.prog 98 #[.slice p 0 cap, fv] w fun e w' => e = .returned (.tuple #[]) ∧ w' = w := by
  have hl : ∀ W, Calls Tryz.prog 119 #[.int .u64 0] W fun e w' => e = .returned (.int .i64 (Lib.bitLen 0 : Nat)) ∧ w' = W := fun W => Tryz.bits_Len 0 W (by omega) (by omega)
  go_enter Tryz.func98, Tryz.ntmps98
  go_wp2_with (first | (go_at_call 119; refine (hl _).mono ?_; rintro e w' ⟨rfl, rfl⟩) | (go_at_call 118; refine (pdq_none p cap _ fv _).mono ?_; rintro e w' ⟨rfl, rfl⟩))
  go_end0
  exact ⟨rfl, rfl⟩
set_option maxRecDepth 100000 in
set_option maxHeartbeats 1000000 in
theorem clone_any (v : Value) (l : List Tag) (w : World) (h : TRow w v l) (hn : l.length ≤ 1000) :
    Calls Tryz.prog 97 #[v] w fun e w' => (∃ v', e = .returned v' ∧ OwnT w' w.heap.size v' l) ∧ Below w.heap.size w w' := by
  obtain ⟨a, c, rfl, hc, hl⟩ := h
  cases a with
  | none =>
    have hl0 : l = [] := by
      rcases List.eq_nil_or_concat l with h0 | ⟨m, x, h0⟩
      · exact h0
      · have hne : l ≠ [] := by rw [h0]; simp
        obtain ⟨b, o, ha, _⟩ := hl hne
        cases ha
    subst hl0
    refine (Tryz.slices_Clone_nil 0 c w).mono ?_
    rintro e w' ⟨rfl, rfl⟩
    exact ⟨⟨_, rfl, ownT_nil _ _⟩, Below.refl _ _⟩
  | some ad =>
    have hnews : ∀ j u, (flat l)[j]? = some u → (w.alloc (Obj.cells #[] 95)).cell? (ad.add j) = some u := by
      intro j u hu
      have hne : l ≠ [] := fun e => by subst e; simp [flat] at hu
      obtain ⟨b, o, ha, hb, hL⟩ := hl hne
      cases ha
      rw [addr_add, World.cell?_alloc_lt _ _ _ hb]
      exact flat_cells hL j u hu
    have HN := Lib.hid hnews
    clear hl hnews
    obtain ⟨i0, hi, hz0, hz1, hz2⟩ := info41
    have HI := Lib.hid (And.intro hi (And.intro hz0 (And.intro hz1 hz2)))
    clear hi hz0 hz1 hz2
    have q22 : ∀ (w : World) (a : Option Addr) (n c n' c' : Nat), (binOp .eql 82 (.slice a n c) (.slice none n' c')).run Tryz.prog w = .ok (.bool a.isNone) w := fun w a n c n' c' => Lib.run_eql_slice_nil w _ _ a n c n' c' Tryz.underlying82
    go_enter Tryz.func97, Tryz.ntmps97
    go_wp2_with (first | (at_builtin; refine wpList_append_own _ rfl _ _ 82 rfl w.heap.size 95 i0 (.agg #[.string ⟨#[]⟩, .string ⟨#[]⟩]) 2 32 Tryz.underlying82 HI.out.1 HI.out.2.1 HI.out.2.2.1 HI.out.2.2.2 rfl (by decide) _ _ _ rfl (World.ownsRow_made w #[] 0 (Nat.le_refl _) (Nat.zero_le _) (by simp)) ad l.length c (flat l) rfl (flat_len l) HN.out (flat_one l) (by unfold maxLen; omega) (by omega) (by simp) ?_; intro v' w2 hown hgrow hnil))
    have hO : OwnT w2 w.heap.size v' l := by simpa using hown
    have d2 : Below w.heap.size w w2 := ((Below.refl _ _).alloc (Nat.le_refl _) _).grown hgrow (by simp) (fun k hk => by cases hk; exact Nat.le_refl _)
    clear hown hgrow hnil HN HI
    go_wp2_with fail
    go_ret
    exact ⟨⟨_, rfl, hO⟩, d2⟩
def encT (x : Tag) : List Value := [.string x.1, .string x.2]
theorem get_bang (l : List Tag) (i : Nat) (h : i < l.length) : l.toArray[i]! = l[i] := by
  rw [getElem!_pos _ i (by simpa using h)]
  simp
theorem own_holds {w : World} {base g cap : Nat} {l : List Tag} (h : OwnT w base (.slice (some ⟨g, 0, none⟩) l.length cap) l) : HoldsK encT 2 w g 0 l.toArray := by
  intro j hj
  rw [size_flatK] at hj
  have hj' : j < l.length * 2 := by simpa using hj
  refine ⟨?_, ?_⟩
  · rw [Nat.zero_add, h.cellAt j hj', id, get_flatK _ _ _ _ hj]
    have hi : j / 2 < l.length := by omega
    obtain ⟨f1, f2⟩ := flat_at l (j / 2) hi
    rw [get_bang l _ hi]
    rcases Nat.mod_two_eq_zero_or_one j with h0 | h0
    · rw [show j / 2 * 2 = j from by omega] at f1
      rw [f1, h0]; rfl
    · rw [show j / 2 * 2 + 1 = j from by omega] at f2
      rw [f2, h0]; rfl
  · rw [Nat.zero_add]; exact h.frozenAt j
theorem holds_lies {w : World} {g : Nat} {d : Array Tag} (h : HoldsK encT 2 w g 0 d) : TLies w g 0 d.toList := by
  intro i hi
  have hi' : i < d.size := by simpa using hi
  have e : d[i]! = d.toList[i] := by rw [getElem!_pos _ i hi']; simp
  have h1 := (h (i * 2) (by rw [size_flatK]; omega)).1
  have h2 := (h (i * 2 + 1) (by rw [size_flatK]; omega)).1
  rw [id, get_flatK _ _ _ _ (by omega), show i * 2 / 2 = i from by omega, show i * 2 % 2 = 0 from by omega, e] at h1
  rw [id, get_flatK _ _ _ _ (by omega), show (i * 2 + 1) / 2 = i from by omega, show (i * 2 + 1) % 2 = 1 from by omega, e] at h2
  exact ⟨h1, by rw [Nat.add_assoc]; exact h2⟩
theorem below_grow2 {base : Nat} {w W : World} (h : Below base w W) (hb : base ≤ W.heap.size) (os : Array Obj) : Below base w (grow W os) := by
  refine ⟨h.os, h.tape, h.output, ?_, ?_⟩
  · show w.heap.size ≤ (W.heap ++ os).size
    have := h.size
    simp
    omega
  · intro b hb2
    show (W.heap ++ os)[b]? = w.heap[b]?
    rw [Array.getElem?_append_left (by omega)]
    exact h.block b hb2
theorem below_sort {base : Nat} {w W : World} {g m : Nat} {d : Array Tag} {os : Array Obj} (h : Below base w W) (hb : base ≤ W.heap.size) (hg : base ≤ g) : Below base w (sortWorldK encT 2 W g 0 m d os) := by
  unfold sortWorldK putRowK
  refine below_grow2 (Lib.below_putRow h hg) ?_ os
  have : (putRow id (Sort.ahead W m) g 0 (flatK encT 2 d)).heap.size = W.heap.size := by rw [size_putRow]; rfl
  omega
theorem lt_ltOf (x y : Tag) : ltOf cf x y = lt x y := by
  unfold ltOf
  rw [Bool.eq_iff_iff, decide_eq_true_eq]
  exact cf_lt x y
theorem swo : SWO (ltOf cf) where
  irrefl x := by rw [lt_ltOf]; exact less_irrefl _
  trans x y z h1 h2 := by rw [lt_ltOf] at *; exact less_trans _ _ _ h1 h2
  ntrans x y z h1 h2 := by
    rw [lt_ltOf] at *
    rcases less_or (nm y) (nm x) with h | h | h
    · cases h3 : lt x z
      · rfl
      · have := less_trans _ _ _ h h3
        rw [show lt y z = less (nm y) (nm z) from rfl, this] at h2
        cases h2
    · unfold lt at *
      rw [h] at h2
      exact h2
    · rw [show lt x y = less (nm x) (nm y) from rfl, h] at h1
      cases h1
theorem sorted_list {l : List Tag} {d : Array Tag} (hp : PermIn 0 l.toArray.size l.toArray d) (hs : SortedIn (ltOf cf) 0 l.toArray.size d) : d.toList.Perm l ∧ (d.toList.Pairwise fun a b => lt b a = false) := by
  obtain ⟨p1, _, p3⟩ := hp
  have e1 : d.extract 0 l.toArray.size = d := by rw [← p1]; simp
  have e2 : l.toArray.extract 0 l.toArray.size = l.toArray := by simp
  rw [e1, e2] at p3
  refine ⟨by simpa using p3, ?_⟩
  rw [List.pairwise_iff_getElem]
  intro i j hi hj hij
  have hi' : i < d.size := by simpa using hi
  have hj' : j < d.size := by simpa using hj
  have := hs i j (Nat.zero_le _) hij (by omega)
  rw [lt_ltOf, getElem!_pos _ i hi', getElem!_pos _ j hj'] at this
  simpa using this
set_option maxRecDepth 100000 in
theorem enters25 : ∀ args w, (callFunc 99 args).run Tryz.prog w = .ok (.enter 99 args) w := enters_of Tryz.func99 (by kernel_rfl) rfl
theorem hlen (n : Nat) (W : World) (h : n ≤ 12) : Calls Tryz.prog 119 #[.int .u64 n] W fun e w' => (∃ l : Int, e = .returned (.int .i64 l)) ∧ w' = W :=
  (Tryz.bits_Len n W (by omega) (by omega)).mono fun _ _ ⟨he, hw⟩ => ⟨⟨_, he⟩, hw⟩
theorem sort_any (g cap : Nat) (l : List Tag) (base : Nat) (w0 w : World) (hd : Below base w0 w) (hO : OwnT w base (.slice (some ⟨g, 0, none⟩) l.length cap) l) (hg : base ≤ g) (hgw : g < w.heap.size) (hn : l.length ≤ 12) :
    Calls Tryz.prog 98 #[.slice (some ⟨g, 0, none⟩) l.length cap, .func (.func 99) #[] #[]] w fun e w' => e = .returned (.tuple #[]) ∧ ∃ S, S.Perm l ∧ (S.Pairwise fun a b => lt b a = false) ∧ TLies w' g 0 S ∧ g < w'.heap.size ∧ Below base w0 w' := by
  have hH := own_holds hO
  have hcon := Tryz.slices_SortFunc_small (α := Tag) 2 (fun w => Tryz.isAgg95 w) (fun w => Tryz.sizeOf95 w) encT (fun _ => rfl) (fun x v hv => by simp [encT] at hv; rcases hv with rfl | rfl <;> rfl) cf _ #[] swo g 0 cap l.toArray w enters25 (fun _ _ _ _ x y => byName_any x y _) hH hgw (by simpa using hn) hlen
  have hz : l.toArray.size = l.length := by simp
  refine Calls.mono (by rw [← hz]; exact hcon) ?_
  rintro e w' ⟨he, d, m, os, hp, hs, hw⟩
  obtain ⟨q1, q2⟩ := sorted_list hp hs
  refine ⟨he, d.toList, q1, q2, ?_, ?_, ?_⟩
  · rw [hw]
    exact holds_lies (holdsK_sortWorldK_c encT 2 w g 0 l.toArray d m os hH hgw hp.1)
  · rw [hw]
    exact Nat.lt_of_lt_of_le hgw (size_sortWorldK_c encT 2 w g 0 m d os)
  · rw [hw]
    exact below_sort hd (by omega) hg
set_option maxRecDepth 100000 in
set_option maxHeartbeats 1000000 in
theorem canon_any (v : Value) (l : List Tag) (w : World) (h : TRow w v l) (hn : l.length ≤ 1000) (hs : ∀ x ∈ l, x.1.size ≤ 281474976710656 ∧ x.2.size ≤ 281474976710656) :
    Calls Tryz.prog 80 #[v] w fun e w' => (∃ v', e = .returned (.tuple #[v', .int .i64 (canon l).2]) ∧ TRow w' v' (canon l).1) ∧ Below w.heap.size w w' := by
  have H1 := formed_any v l w h (by omega) hs
  cases hf : l.all may
  · rw [canon_form hf]
    rw [hf] at H1
    have H1 := Lib.hid H1
    clear hs hf
    obtain ⟨a, c, rfl, hc, _⟩ := h
    go_enter Tryz.func80, Tryz.ntmps80
    go_wp2_with (first | (go_at_call 96; refine (H1.out).mono ?_; rintro e w1 ⟨rfl, n1⟩))
    go_ret2
    exact ⟨⟨_, rfl, TRow.nil _⟩, n1⟩
  · rw [hf] at H1
    by_cases h4 : 4 < l.length
    · rw [canon_many hf h4]
      have H1 := Lib.hid H1
      clear hs hf
      obtain ⟨a, c, rfl, hc, _⟩ := h
      go_enter Tryz.func80, Tryz.ntmps80
      go_wp2_with (first | (go_at_call 96; refine (H1.out).mono ?_; rintro e w1 ⟨rfl, n1⟩))
      go_ret2
      exact ⟨⟨_, rfl, TRow.nil _⟩, n1⟩
    · have HQ := Lib.hid (canon_order hf (by omega))
      have HR := Lib.hid h
      have H1 := Lib.hid H1
      clear hs hf
      obtain ⟨a, c, rfl, hc, _⟩ := h
      go_enter Tryz.func80, Tryz.ntmps80
      go_wp2_with (first | (go_at_call 96; refine (H1.out).mono ?_; rintro e w1 ⟨rfl, n1⟩))
      have hr1 := HR.out.on n1
      refine (clone_any _ l _ hr1 hn).mono ?_
      rintro e w2 ⟨⟨v2, rfl, hO⟩, n2⟩
      have d2 := n1.trans (n2.mono n1.size)
      clear H1 HR hr1
      rcases List.eq_nil_or_concat l with h0 | ⟨m, x, h0⟩
      · subst h0
        obtain ⟨a2, c2, rfl, hc2, _⟩ := ownT_row hO
        have hr2 := ownT_row hO
        clear hO
        go_wp2_with fail
        refine (sort_none _ _ _ _).mono ?_
        rintro e w3 ⟨rfl, rfl⟩
        go_wp2_with fail
        refine (rising_any _ [] _ hr2 (by simp)).mono ?_
        rintro e w4 ⟨rfl, n4⟩
        rw [rising_nil]
        go_wp2_with fail
        go_ret2
        rw [show canon [] = ([], 0) from rfl]
        exact ⟨⟨_, rfl, hr2.on n4⟩, d2.trans (n4.mono d2.size)⟩
      · have hne : 0 < l.length := by rw [h0]; simp
        clear h0
        obtain ⟨g, cap, hv, hg1, hg2⟩ : ∃ g cap, v2 = .slice (some ⟨g, 0, none⟩) l.length cap ∧ w1.heap.size ≤ g ∧ g < w2.heap.size := by
          rcases hO.2 with ⟨_, hz⟩ | ⟨g, cap, cur, hv, hb, hg, _⟩
          · omega
          · refine ⟨g, cap, hv, hb, ?_⟩
            rcases Nat.lt_or_ge g w2.heap.size with hlt | hge
            · exact hlt
            · rw [Array.getElem?_eq_none hge] at hg; cases hg
        subst hv
        have hcap : l.length ≤ cap := by
          obtain ⟨a3, c3, he, hc3, _⟩ := ownT_row hO
          cases he
          exact hc3
        have HS := Lib.hid (sort_any g cap l w1.heap.size w1 w2 n2 hO hg1 hg2 (by omega))
        clear hO
        go_wp2_with fail
        refine (HS.out).mono ?_
        rintro e w3 ⟨rfl, S, hp, hw, hL, hg3, n3⟩
        have hlen : S.length = l.length := hp.length_eq
        have hr3 : TRow w3 (.slice (some ⟨g, 0, none⟩) S.length cap) S := ⟨_, cap, rfl, by omega, fun _ => ⟨g, 0, rfl, hg3, hL⟩⟩
        have HQ2 := Lib.hid (HQ.out)
        rw [order_sorted hp hw] at HQ2
        have d3 := n1.trans (n3.mono n1.size)
        clear HS hL hw n2 n3 HQ d2 hg1 hg2 hp
        rw [hlen] at hr3
        go_wp2_with fail
        refine (rising_any _ S _ hr3 (by omega)).mono ?_
        rintro e w4 ⟨rfl, n4⟩
        have hr4 := hr3.on n4
        have d4 := d3.trans (n4.mono d3.size)
        clear n4 d3 hr3
        cases hq : rising S
        · rw [hq, if_neg (by simp)] at HQ2
          clear hq
          go_wp2_with fail
          go_ret2
          rw [HQ2.out]
          exact ⟨⟨_, rfl, TRow.nil _⟩, d4⟩
        · rw [hq, if_pos rfl] at HQ2
          clear hq
          go_wp2_with fail
          go_ret2
          rw [HQ2.out]
          exact ⟨⟨_, rfl, hr4⟩, d4⟩
end Go.Proofs.YtehgpibngalhfaaGreatDoor
