/- The change of a part: a walk of the document's. -/
import Derived.Test.YtehgpibngalhfaaGreatDoorN5
namespace Go.Proofs.YtehgpibngalhfaaGreatDoor.Rw
open Go Go.RowKit Go.Sort Go.Lib Tg Pk Ky Qy Df

/-- A change's box that may be written; nothing is in it yet. -/
def CZ (w : World) (b : Nat) : Prop :=
  (w.cell? ⟨b, 0, none⟩ = some (.int .i64 0) ∧ w.cell? ⟨b, 1, none⟩ = some (.string ⟨#[]⟩) ∧ w.cell? ⟨b, 2, none⟩ = some (.int .i64 0) ∧ w.cell? ⟨b, 3, none⟩ = some (.bool false) ∧ w.cell? ⟨b, 4, none⟩ = some (.bool false)) ∧
  (w.frozen? ⟨b, 0, none⟩ = false ∧ w.frozen? ⟨b, 1, none⟩ = false ∧ w.frozen? ⟨b, 2, none⟩ = false ∧ w.frozen? ⟨b, 3, none⟩ = false ∧ w.frozen? ⟨b, 4, none⟩ = false)
theorem CZ.lt {w : World} {b : Nat} (h : CZ w b) : b < w.heap.size := World.block_lt_of_cell? _ _ h.1.1
theorem CZ.on {w w1 : World} {b : Nat} (h : CZ w b) (n : Below w.heap.size w w1) : CZ w1 b :=
  have z := h.lt
  ⟨⟨keepC n h.1.1 z, keepC n h.1.2.1 z, keepC n h.1.2.2.1 z, keepC n h.1.2.2.2.1 z, keepC n h.1.2.2.2.2 z⟩, ⟨keepF' n h.2.1 z, keepF' n h.2.2.1 z, keepF' n h.2.2.2.1 z, keepF' n h.2.2.2.2.1 z, keepF' n h.2.2.2.2.2 z⟩⟩
theorem CZ.new (W : World) : CZ (W.alloc (.cells #[.int .i64 0, .string ⟨#[]⟩, .int .i64 0, .bool false, .bool false] 47)) W.heap.size :=
  ⟨⟨by simp, by simp, by simp, by simp, by simp⟩, ⟨by simp [go_sem], by simp [go_sem], by simp [go_sem], by simp [go_sem], by simp [go_sem]⟩⟩
theorem bar_facts {s : ByteArray} (h0 : ¬ s.data.toList = [45]) : (s.toList == ([45] : List UInt8)) = false ∧ (([45] : List UInt8) == s.toList) = false ∧ ¬ s.toList = ([45] : List UInt8) := by
  have hq : (s.toList == (⟨#[45]⟩ : ByteArray).toList) = false := by
    rw [beq_ba]
    cases hc : eqB s ⟨#[45]⟩
    · rfl
    · exfalso; have := (eqB_true _ _).1 hc; subst this; exact h0 rfl
  have e45 : (⟨#[45]⟩ : ByteArray).toList = [45] := by rw [ByteArray.toList_eq]
  have hq1 : (s.toList == ([45] : List UInt8)) = false := by rw [← e45]; exact hq
  refine ⟨hq1, ?_, fun e => by rw [e] at hq1; simp at hq1⟩
  cases hc : (([45] : List UInt8) == s.toList)
  · rfl
  · have := eq_of_beq hc; rw [← this] at hq1; simp at hq1
theorem rparse_some {s : List UInt8} (h0 : ¬ s = [45]) (h : (rparse s).2 = 0) : (rparse s).1 ≠ [] := by
  intro e
  have := (rparse_back h).1
  rw [e] at this
  exact h0 this.symm
theorem come_ok {s : List UInt8} {r : Row} {t : List Row} (h : rparse s = (r :: t, 0)) : comeRead s = (⟨r, false⟩, 0) := by unfold comeRead; rw [h]; rfl
theorem come_err {s : List UInt8} (h : ¬ (rparse s).2 = 0) : comeRead s = (zchg, (rparse s).2) := by unfold comeRead; rw [if_neg h]
theorem parts_small {s : ByteArray} (hs : s.size ≤ 900) : ∀ x ∈ partsB 59 s, x.size ≤ 900 := fun _ hx => Nat.le_trans (part_le hx) hs

set_option maxRecDepth 100000 in
set_option maxHeartbeats 1000000 in
theorem refOneC_bar (w : World) :
    Calls Tryz.prog 43 #[.string ⟨#[45]⟩] w fun e w' => e = .returned (.tuple #[chV zchg, .int .i64 2]) ∧ Below w.heap.size w w' := by
  go_enter Tryz.func43, Tryz.ntmps43
  have X := CZ.new w
  have n0 := aBelow w (.cells #[.int .i64 0, .string ⟨#[]⟩, .int .i64 0, .bool false, .bool false] 47)
  obtain ⟨⟨x0, x1, x2, x3, x4⟩, f0, f1, f2, f3, f4⟩ := id X
  go_wp2_with fail
  refine bodyPost_ret (v := .tuple #[.agg #[.int .i64 0, .string ⟨#[]⟩, .int .i64 0, .bool false, .bool false], .int .i64 2]) (by simp [results, Tryz.results43, go_sem, x0, x1, x2, x3, x4]) rfl ⟨rfl, ?_⟩
  exact aBelow _ _

set_option maxRecDepth 100000 in
set_option maxHeartbeats 2000000 in
theorem refOneC_none (s : ByteArray) (w : World) (hs : s.size ≤ 900) (h0 : ¬ s.data.toList = [45]) (hz : s.size = 0) :
    Calls Tryz.prog 43 #[.string s] w fun e w' => e = .returned (.tuple #[chV (comeRead s.data.toList).1, .int .i64 (comeRead s.data.toList).2]) ∧ Below w.heap.size w w' := by
  obtain ⟨hq1, hq2, hq3⟩ := bar_facts h0
  have k1 : ((s.size : Int) == 0) = true := by simp [hz]
  have k2 : (s.size : Int) = 0 := by omega
  have HP := fun W => refRparse_any s W (by omega) (parts_small hs)
  have HC := Lib.hid (fun (h : (rparse s.data.toList).2 = 0) => rparse_some h0 h)
  have HE1 := Lib.hid (fun (h : ¬ (rparse s.data.toList).2 = 0) => come_err h)
  have HE2 := Lib.hid (fun r t (h : rparse s.data.toList = (r :: t, 0)) => come_ok h)
  generalize comeRead s.data.toList = CR at *
  generalize rparse s.data.toList = R at *
  obtain ⟨L, E⟩ := R
  simp only at HP HC HE1
  have HP := Lib.hid HP
  clear h0
  by_cases hE : E = 0
  · subst hE
    obtain ⟨r, t, hL⟩ := List.exists_cons_of_ne_nil (HC.out rfl)
    subst hL
    have HM := Lib.hid (HE2.out r t rfl)
    clear HC HE1 HE2
    go_enter Tryz.func43, Tryz.ntmps43
    go_wp2_with fail
    have n0 := aBelow w (.cells #[.int .i64 0, .string ⟨#[]⟩, .int .i64 0, .bool false, .bool false] 47)
    refine (HP.out _).mono ?_
    rintro e w1 ⟨⟨v, rfl, hv⟩, n1⟩
    have X := (CZ.new w).on n1
    have n1 := n0.trans (n1.mono n0.size)
    clear n0 HP
    obtain ⟨b, o, c, rfl, hc, hb, hL⟩ := hv.open (by simp)
    obtain ⟨e1, e2, e3, e4⟩ := r_at hL 0 (by simp)
    simp only [List.getElem_cons_zero, Nat.zero_mul, Nat.add_zero] at e1 e2 e3 e4
    have hlen : (0 : Int) < ((r :: t).length : Int) := by simp only [List.length_cons]; omega
    generalize (r :: t).length = len at *
    obtain ⟨y1, y2, y3, y4⟩ := r
    simp only at e1 e2 e3 e4
    clear hL hb hv
    obtain ⟨⟨x0, x1, x2, x3, x4⟩, f0, f1, f2, f3, f4⟩ := id X
    go_wp2_with fail
    rw [HM.out]
    refine bodyPost_ret (v := .tuple #[.agg #[.int .i64 y1, .string y2, .int .i64 y3, .bool y4, .bool false], .int .i64 0]) (by simp [results, Tryz.results43, go_sem, x0, x1, x2, x3, x4]) rfl ⟨rfl, ?_⟩
    exact (((n1.setCell (p := ⟨w.heap.size, 0, none⟩) (Nat.le_refl _) _).setCell (p := ⟨w.heap.size, 1, none⟩) (Nat.le_refl _) _).setCell (p := ⟨w.heap.size, 2, none⟩) (Nat.le_refl _) _).setCell (p := ⟨w.heap.size, 3, none⟩) (Nat.le_refl _) _ |>.setCell (p := ⟨w.heap.size, 4, none⟩) (Nat.le_refl _) _
  · have HM := Lib.hid (HE1.out hE)
    have z1 : (E != 0) = true := by simp [hE]
    have z2 : (E == 0) = false := by simp [hE]
    clear HC HE1 HE2
    go_enter Tryz.func43, Tryz.ntmps43
    go_wp2_with fail
    have n0 := aBelow w (.cells #[.int .i64 0, .string ⟨#[]⟩, .int .i64 0, .bool false, .bool false] 47)
    refine (HP.out _).mono ?_
    rintro e w1 ⟨⟨v, rfl, hv⟩, n1⟩
    have X := (CZ.new w).on n1
    have n1 := n0.trans (n1.mono n0.size)
    clear n0 HP
    obtain ⟨a, c, rfl, _, _⟩ := hv
    obtain ⟨⟨x0, x1, x2, x3, x4⟩, f0, f1, f2, f3, f4⟩ := id X
    go_wp2_with fail
    rw [HM.out]
    refine bodyPost_ret (v := .tuple #[.agg #[.int .i64 0, .string ⟨#[]⟩, .int .i64 0, .bool false, .bool false], .int .i64 E]) (by simp [results, Tryz.results43, go_sem, x0, x1, x2, x3, x4]) rfl ⟨rfl, ?_⟩
    exact (((n1.setCell (p := ⟨w.heap.size, 0, none⟩) (Nat.le_refl _) _).setCell (p := ⟨w.heap.size, 1, none⟩) (Nat.le_refl _) _).setCell (p := ⟨w.heap.size, 2, none⟩) (Nat.le_refl _) _).setCell (p := ⟨w.heap.size, 3, none⟩) (Nat.le_refl _) _ |>.setCell (p := ⟨w.heap.size, 4, none⟩) (Nat.le_refl _) _

set_option maxRecDepth 100000 in
set_option maxHeartbeats 2000000 in
theorem refOneC_come (s : ByteArray) (w : World) (hs : s.size ≤ 900) (h0 : ¬ s.data.toList = [45]) (hp : 0 < s.size) (h33 : (((s[0]'(by omega)).toNat : Int) == 33) = false) :
    Calls Tryz.prog 43 #[.string s] w fun e w' => e = .returned (.tuple #[chV (comeRead s.data.toList).1, .int .i64 (comeRead s.data.toList).2]) ∧ Below w.heap.size w w' := by
  obtain ⟨hq1, hq2, hq3⟩ := bar_facts h0
  have k1 : ((s.size : Int) == 0) = false := by rw [beq_eq_false_iff_ne]; omega
  have k2 : ¬ (s.size : Int) = 0 := by omega
  have k3 : (((s[0]'(by omega)).toNat : Int) != 33) = true := by simp only [bne, h33]; rfl
  have HP := fun W => refRparse_any s W (by omega) (parts_small hs)
  have HC := Lib.hid (fun (h : (rparse s.data.toList).2 = 0) => rparse_some h0 h)
  have HE1 := Lib.hid (fun (h : ¬ (rparse s.data.toList).2 = 0) => come_err h)
  have HE2 := Lib.hid (fun r t (h : rparse s.data.toList = (r :: t, 0)) => come_ok h)
  generalize comeRead s.data.toList = CR at *
  generalize rparse s.data.toList = R at *
  obtain ⟨L, E⟩ := R
  simp only at HP HC HE1
  have HP := Lib.hid HP
  clear h0
  by_cases hE : E = 0
  · subst hE
    obtain ⟨r, t, hL⟩ := List.exists_cons_of_ne_nil (HC.out rfl)
    subst hL
    have HM := Lib.hid (HE2.out r t rfl)
    clear HC HE1 HE2
    go_enter Tryz.func43, Tryz.ntmps43
    go_wp2_with fail
    have n0 := aBelow w (.cells #[.int .i64 0, .string ⟨#[]⟩, .int .i64 0, .bool false, .bool false] 47)
    refine (HP.out _).mono ?_
    rintro e w1 ⟨⟨v, rfl, hv⟩, n1⟩
    have X := (CZ.new w).on n1
    have n1 := n0.trans (n1.mono n0.size)
    clear n0 HP
    obtain ⟨b, o, c, rfl, hc, hb, hL⟩ := hv.open (by simp)
    obtain ⟨e1, e2, e3, e4⟩ := r_at hL 0 (by simp)
    simp only [List.getElem_cons_zero, Nat.zero_mul, Nat.add_zero] at e1 e2 e3 e4
    have hlen : (0 : Int) < ((r :: t).length : Int) := by simp only [List.length_cons]; omega
    generalize (r :: t).length = len at *
    obtain ⟨y1, y2, y3, y4⟩ := r
    simp only at e1 e2 e3 e4
    clear hL hb hv
    obtain ⟨⟨x0, x1, x2, x3, x4⟩, f0, f1, f2, f3, f4⟩ := id X
    go_wp2_with fail
    rw [HM.out]
    refine bodyPost_ret (v := .tuple #[.agg #[.int .i64 y1, .string y2, .int .i64 y3, .bool y4, .bool false], .int .i64 0]) (by simp [results, Tryz.results43, go_sem, x0, x1, x2, x3, x4]) rfl ⟨rfl, ?_⟩
    exact (((n1.setCell (p := ⟨w.heap.size, 0, none⟩) (Nat.le_refl _) _).setCell (p := ⟨w.heap.size, 1, none⟩) (Nat.le_refl _) _).setCell (p := ⟨w.heap.size, 2, none⟩) (Nat.le_refl _) _).setCell (p := ⟨w.heap.size, 3, none⟩) (Nat.le_refl _) _ |>.setCell (p := ⟨w.heap.size, 4, none⟩) (Nat.le_refl _) _
  · have HM := Lib.hid (HE1.out hE)
    have z1 : (E != 0) = true := by simp [hE]
    have z2 : (E == 0) = false := by simp [hE]
    clear HC HE1 HE2
    go_enter Tryz.func43, Tryz.ntmps43
    go_wp2_with fail
    have n0 := aBelow w (.cells #[.int .i64 0, .string ⟨#[]⟩, .int .i64 0, .bool false, .bool false] 47)
    refine (HP.out _).mono ?_
    rintro e w1 ⟨⟨v, rfl, hv⟩, n1⟩
    have X := (CZ.new w).on n1
    have n1 := n0.trans (n1.mono n0.size)
    clear n0 HP
    obtain ⟨a, c, rfl, _, _⟩ := hv
    obtain ⟨⟨x0, x1, x2, x3, x4⟩, f0, f1, f2, f3, f4⟩ := id X
    go_wp2_with fail
    rw [HM.out]
    refine bodyPost_ret (v := .tuple #[.agg #[.int .i64 0, .string ⟨#[]⟩, .int .i64 0, .bool false, .bool false], .int .i64 E]) (by simp [results, Tryz.results43, go_sem, x0, x1, x2, x3, x4]) rfl ⟨rfl, ?_⟩
    exact (((n1.setCell (p := ⟨w.heap.size, 0, none⟩) (Nat.le_refl _) _).setCell (p := ⟨w.heap.size, 1, none⟩) (Nat.le_refl _) _).setCell (p := ⟨w.heap.size, 2, none⟩) (Nat.le_refl _) _).setCell (p := ⟨w.heap.size, 3, none⟩) (Nat.le_refl _) _ |>.setCell (p := ⟨w.heap.size, 4, none⟩) (Nat.le_refl _) _

/-- What two parts tell. -/
def gone2 (a b : ByteArray) : Chg × Int := if (Sat.read a.data.toList).2 = 0 then (if grpE b = 0 then (⟨⟨(Sat.read a.data.toList).1, b, 0, false⟩, true⟩, 0) else (zchg, grpE b)) else (zchg, (Sat.read a.data.toList).2)
theorem gone_two {D a b : ByteArray} (h : partsB 124 D = [a, b]) : goneRead D.data.toList = gone2 a b := by
  have h2 : Word.parts 124 D.data.toList = [a.data.toList, b.data.toList] := by
    have := congrArg (List.map (fun x : ByteArray => x.data.toList)) h
    unfold partsB at this
    rw [map_ba] at this
    exact this
  rw [goneRead_two h2]
  unfold gone2
  rw [bb_eq]
theorem gone_else {D : ByteArray} (h : (partsB 124 D).length ≠ 2) : goneRead D.data.toList = (zchg, 2) := by
  apply goneRead_else
  unfold partsB at h
  rwa [List.length_map] at h
theorem two_of {l : List ByteArray} (h : l.length = 2) : ∃ a b, l = [a, b] := by
  match l, h with
  | [a, b], _ => exact ⟨a, b, rfl⟩

set_option maxRecDepth 100000 in
set_option maxHeartbeats 4000000 in
theorem refOneC_two (s D a b : ByteArray) (w : World) (hs : s.size ≤ 900) (hp : 0 < s.size) (h33 : (((s[0]'(by omega)).toNat : Int) == 33) = true) (h0 : ¬ s.data.toList = [45]) (hD : s.extract 1 s.size = D) (hDs : D.size ≤ 900) (h2 : partsB 124 D = [a, b]) :
    Calls Tryz.prog 43 #[.string s] w fun e w' => e = .returned (.tuple #[chV (gone2 a b).1, .int .i64 (gone2 a b).2]) ∧ Below w.heap.size w w' := by
  obtain ⟨hq1, hq2, hq3⟩ := bar_facts h0
  have k1 : ((s.size : Int) == 0) = false := by rw [beq_eq_false_iff_ne]; omega
  have k2 : ¬ (s.size : Int) = 0 := by omega
  have k3 : (((s[0]'(by omega)).toNat : Int) != 33) = false := by simp only [bne, h33]; rfl
  have HSP := fun W => refSplit_any D 124 W (by omega)
  rw [h2] at HSP
  have HSP := Lib.hid HSP
  have za : a.size ≤ 900 := by have := part_le (c := 124) (s := D) (x := a) (by rw [h2]; simp); omega
  have zb : b.size ≤ 900 := by have := part_le (c := 124) (s := D) (x := b) (by rw [h2]; simp); omega
  have HR := fun W => St.refRead_any a W (by omega)
  have HT := fun W => YtehgpibngalhfaaGreatDoor.refParse_any b W zb
  have HS := fun h => Lib.hid (tags_small (s := b.data.toList) h)
  have HQ := fun l => Lib.hid (textB_eq l b)
  have HB := fun l => Lib.hid (beq_ba (textB l) b)
  have HG1 : Hid (¬ (parse b.data.toList).2 = 0 → grpE b = (parse b.data.toList).2) := fun h => grpE_err h
  have HG2 : Hid ((parse b.data.toList).2 = 0 → text (parse b.data.toList).1 = b.data.toList → grpE b = 0) := fun h h2 => grpE_ok h h2
  have HG3 : Hid ((parse b.data.toList).2 = 0 → ¬ text (parse b.data.toList).1 = b.data.toList → grpE b = 2) := fun h h2 => grpE_form h h2
  unfold gone2
  generalize Sat.read a.data.toList = R at *
  generalize grpE b = G at *
  generalize parse b.data.toList = C at *
  obtain ⟨R1, R2⟩ := R
  obtain ⟨L, E⟩ := C
  simp only at HR HT HS HG1 HG2 HG3 ⊢
  have HR := Lib.hid HR
  have HT := Lib.hid HT
  clear h2 za zb
  by_cases h_R2 : R2 = 0
  · rw [if_pos h_R2]
    subst h_R2
    by_cases hE0 : E = 0
    · subst hE0
      obtain ⟨q1, q2, q3⟩ := (HS rfl).out
      clear HS
      have HX := fun v w (h : TRow w v L) => Lib.hid (YtehgpibngalhfaaGreatDoor.refText_any v L w h q1 q2 q3)
      cases hbb : eqB (textB L) b
      · have HM := HG3.out rfl (fun h => by rw [(HQ L).out.1 h] at hbb; cases hbb)
        have hb2 := ((HB L).out).trans hbb
        rw [if_neg (by rw [HM]; decide), HM]
        clear HQ HB HG1 HG2 HG3 q1 q2 q3 hbb HM
        generalize textB L = T at *
        go_enter Tryz.func43, Tryz.ntmps43
        go_wp2_with fail
        have n0 := aBelow w (.cells #[.int .i64 0, .string ⟨#[]⟩, .int .i64 0, .bool false, .bool false] 47)
        refine (HSP.out _).mono ?_
        rintro e w1 ⟨⟨v, rfl, hv⟩, n1⟩
        have X := (CZ.new w).on n1
        have n1 := n0.trans (n1.mono n0.size)
        clear n0
        obtain ⟨ad, cp, rfl, hcp, hl⟩ := hv
        obtain ⟨bk, of, rfl, hb, hL⟩ := hl (by simp)
        have p0 : w1.cell? ⟨bk, of, none⟩ = some (.string a) := hL 0 a rfl
        have p1 := hL 1 b rfl
        have hlen : [a, b].length = 2 := rfl
        rw [hlen] at hcp ⊢
        clear HSP hL hl hlen
        obtain ⟨⟨x0, x1, x2, x3, x4⟩, f0, f1, f2, f3, f4⟩ := id X
        go_wp2_with fail
        refine (HR.out _).mono ?_
        rintro e w2 ⟨rfl, hw2⟩
        have hw2 := hw2.symm
        subst hw2
        clear p0
        go_wp2_with fail
        refine (HT.out _).mono ?_
        rintro e w3 ⟨⟨v', rfl, hv⟩, n3⟩
        clear x0 x1 x2 x3 x4 f0 f1 f2 f3 f4
        have X := X.on n3
        obtain ⟨⟨x0, x1, x2, x3, x4⟩, f0, f1, f2, f3, f4⟩ := id X
        have d3 := n1.trans (n3.mono n1.size)
        have p1 := keepC n3 p1 hb
        have hb := Nat.lt_of_lt_of_le hb n3.size
        clear n1 n3
        have r3 : Below w3.heap.size w3 w3.drew := (Below.refl _ _).drew
        have HX2 := HX _ w3.drew (hv.on r3)
        obtain ⟨ta, tc, rfl, _, _⟩ := hv
        have hS : w3.drew.cell? ⟨bk, of + 1, none⟩ = some (.string b) ∧ Below w3.heap.size w3 w3.drew := ⟨p1, r3⟩
        clear HX
        go_wp2_with fail
        go_region_held3 (fun w' => w'.cell? ⟨bk, of + 1, none⟩ = some (.string b) ∧ Below w3.heap.size w3 w') (first | exact hS | exact hS4) (first
          | (go_at_call 61; refine (HX2.out).mono ?_; rintro e w4 ⟨rfl, n4⟩; have m4 : Below w3.heap.size w3 w4 := r3.trans n4; have hS4 : w4.cell? ⟨bk, of + 1, none⟩ = some (.string b) ∧ Below w3.heap.size w3 w4 := ⟨keepC m4 p1 hb, m4⟩)
          | fail)
        clear x0 x1 x2 x3 x4 f0 f1 f2 f3 f4
        have X := X.on m4
        obtain ⟨⟨x0, x1, x2, x3, x4⟩, f0, f1, f2, f3, f4⟩ := id X
        have d4 := d3.trans (m4.mono d3.size)
        have p1 := hS4.1
        clear d3 n4 HX2 hS hS4 r3 m4
        go_wp2_with fail
        refine bodyPost_ret (v := .tuple #[.agg #[.int .i64 0, .string ⟨#[]⟩, .int .i64 0, .bool false, .bool false], .int .i64 2]) (by simp [results, Tryz.results43, go_sem, x0, x1, x2, x3, x4]) rfl ⟨rfl, ?_⟩
        exact (((d4.setCell (p := ⟨w.heap.size, 0, none⟩) (Nat.le_refl _) _).setCell (p := ⟨w.heap.size, 1, none⟩) (Nat.le_refl _) _).setCell (p := ⟨w.heap.size, 2, none⟩) (Nat.le_refl _) _).setCell (p := ⟨w.heap.size, 3, none⟩) (Nat.le_refl _) _ |>.setCell (p := ⟨w.heap.size, 4, none⟩) (Nat.le_refl _) _
      · have HM := HG2.out rfl ((HQ L).out.2 hbb)
        have hb2 := ((HB L).out).trans hbb
        rw [if_pos HM]
        clear HQ HB HG1 HG2 HG3 q1 q2 q3 hbb HM
        generalize textB L = T at *
        go_enter Tryz.func43, Tryz.ntmps43
        go_wp2_with fail
        have n0 := aBelow w (.cells #[.int .i64 0, .string ⟨#[]⟩, .int .i64 0, .bool false, .bool false] 47)
        refine (HSP.out _).mono ?_
        rintro e w1 ⟨⟨v, rfl, hv⟩, n1⟩
        have X := (CZ.new w).on n1
        have n1 := n0.trans (n1.mono n0.size)
        clear n0
        obtain ⟨ad, cp, rfl, hcp, hl⟩ := hv
        obtain ⟨bk, of, rfl, hb, hL⟩ := hl (by simp)
        have p0 : w1.cell? ⟨bk, of, none⟩ = some (.string a) := hL 0 a rfl
        have p1 := hL 1 b rfl
        have hlen : [a, b].length = 2 := rfl
        rw [hlen] at hcp ⊢
        clear HSP hL hl hlen
        obtain ⟨⟨x0, x1, x2, x3, x4⟩, f0, f1, f2, f3, f4⟩ := id X
        go_wp2_with fail
        refine (HR.out _).mono ?_
        rintro e w2 ⟨rfl, hw2⟩
        have hw2 := hw2.symm
        subst hw2
        clear p0
        go_wp2_with fail
        refine (HT.out _).mono ?_
        rintro e w3 ⟨⟨v', rfl, hv⟩, n3⟩
        clear x0 x1 x2 x3 x4 f0 f1 f2 f3 f4
        have X := X.on n3
        obtain ⟨⟨x0, x1, x2, x3, x4⟩, f0, f1, f2, f3, f4⟩ := id X
        have d3 := n1.trans (n3.mono n1.size)
        have p1 := keepC n3 p1 hb
        have hb := Nat.lt_of_lt_of_le hb n3.size
        clear n1 n3
        have r3 : Below w3.heap.size w3 w3.drew := (Below.refl _ _).drew
        have HX2 := HX _ w3.drew (hv.on r3)
        obtain ⟨ta, tc, rfl, _, _⟩ := hv
        have hS : w3.drew.cell? ⟨bk, of + 1, none⟩ = some (.string b) ∧ Below w3.heap.size w3 w3.drew := ⟨p1, r3⟩
        clear HX
        go_wp2_with fail
        go_region_held3 (fun w' => w'.cell? ⟨bk, of + 1, none⟩ = some (.string b) ∧ Below w3.heap.size w3 w') (first | exact hS | exact hS4) (first
          | (go_at_call 61; refine (HX2.out).mono ?_; rintro e w4 ⟨rfl, n4⟩; have m4 : Below w3.heap.size w3 w4 := r3.trans n4; have hS4 : w4.cell? ⟨bk, of + 1, none⟩ = some (.string b) ∧ Below w3.heap.size w3 w4 := ⟨keepC m4 p1 hb, m4⟩)
          | fail)
        clear x0 x1 x2 x3 x4 f0 f1 f2 f3 f4
        have X := X.on m4
        obtain ⟨⟨x0, x1, x2, x3, x4⟩, f0, f1, f2, f3, f4⟩ := id X
        have d4 := d3.trans (m4.mono d3.size)
        have p1 := hS4.1
        clear d3 n4 HX2 hS hS4 r3 m4
        go_wp2_with fail
        refine bodyPost_ret (v := .tuple #[.agg #[.int .i64 R1, .string b, .int .i64 0, .bool false, .bool true], .int .i64 0]) (by simp [results, Tryz.results43, go_sem, x0, x1, x2, x3, x4]) rfl ⟨rfl, ?_⟩
        exact (((d4.setCell (p := ⟨w.heap.size, 0, none⟩) (Nat.le_refl _) _).setCell (p := ⟨w.heap.size, 1, none⟩) (Nat.le_refl _) _).setCell (p := ⟨w.heap.size, 2, none⟩) (Nat.le_refl _) _).setCell (p := ⟨w.heap.size, 3, none⟩) (Nat.le_refl _) _ |>.setCell (p := ⟨w.heap.size, 4, none⟩) (Nat.le_refl _) _
    · have HM := HG1.out hE0
      have z1 : (E != 0) = true := by simp [hE0]
      have z2 : (E == 0) = false := by simp [hE0]
      rw [if_neg (by rw [HM]; exact hE0), HM]
      clear HS HQ HB HG1 HG2 HG3 HM
      go_enter Tryz.func43, Tryz.ntmps43
      go_wp2_with fail
      have n0 := aBelow w (.cells #[.int .i64 0, .string ⟨#[]⟩, .int .i64 0, .bool false, .bool false] 47)
      refine (HSP.out _).mono ?_
      rintro e w1 ⟨⟨v, rfl, hv⟩, n1⟩
      have X := (CZ.new w).on n1
      have n1 := n0.trans (n1.mono n0.size)
      clear n0
      obtain ⟨ad, cp, rfl, hcp, hl⟩ := hv
      obtain ⟨bk, of, rfl, hb, hL⟩ := hl (by simp)
      have p0 : w1.cell? ⟨bk, of, none⟩ = some (.string a) := hL 0 a rfl
      have p1 := hL 1 b rfl
      have hlen : [a, b].length = 2 := rfl
      rw [hlen] at hcp ⊢
      clear HSP hL hl hlen
      obtain ⟨⟨x0, x1, x2, x3, x4⟩, f0, f1, f2, f3, f4⟩ := id X
      go_wp2_with fail
      refine (HR.out _).mono ?_
      rintro e w2 ⟨rfl, hw2⟩
      have hw2 := hw2.symm
      subst hw2
      clear p0
      go_wp2_with fail
      refine (HT.out _).mono ?_
      rintro e w3 ⟨⟨v', rfl, hv⟩, n3⟩
      clear x0 x1 x2 x3 x4 f0 f1 f2 f3 f4
      have X := X.on n3
      obtain ⟨⟨x0, x1, x2, x3, x4⟩, f0, f1, f2, f3, f4⟩ := id X
      have d3 := n1.trans (n3.mono n1.size)
      have p1 := keepC n3 p1 hb
      have hb := Nat.lt_of_lt_of_le hb n3.size
      clear n1 n3
      obtain ⟨ta, tc, rfl, _, _⟩ := hv
      go_wp2_with fail
      refine bodyPost_ret (v := .tuple #[.agg #[.int .i64 0, .string ⟨#[]⟩, .int .i64 0, .bool false, .bool false], .int .i64 E]) (by simp [results, Tryz.results43, go_sem, x0, x1, x2, x3, x4]) rfl ⟨rfl, ?_⟩
      exact (((d3.setCell (p := ⟨w.heap.size, 0, none⟩) (Nat.le_refl _) _).setCell (p := ⟨w.heap.size, 1, none⟩) (Nat.le_refl _) _).setCell (p := ⟨w.heap.size, 2, none⟩) (Nat.le_refl _) _).setCell (p := ⟨w.heap.size, 3, none⟩) (Nat.le_refl _) _ |>.setCell (p := ⟨w.heap.size, 4, none⟩) (Nat.le_refl _) _
  · rw [if_neg h_R2]
    have z1 : (R2 != 0) = true := by simp [h_R2]
    have z2 : (R2 == 0) = false := by simp [h_R2]
    clear HS HQ HB HG1 HG2 HG3 HT
    go_enter Tryz.func43, Tryz.ntmps43
    go_wp2_with fail
    have n0 := aBelow w (.cells #[.int .i64 0, .string ⟨#[]⟩, .int .i64 0, .bool false, .bool false] 47)
    refine (HSP.out _).mono ?_
    rintro e w1 ⟨⟨v, rfl, hv⟩, n1⟩
    have X := (CZ.new w).on n1
    have n1 := n0.trans (n1.mono n0.size)
    clear n0
    obtain ⟨ad, cp, rfl, hcp, hl⟩ := hv
    obtain ⟨bk, of, rfl, hb, hL⟩ := hl (by simp)
    have p0 : w1.cell? ⟨bk, of, none⟩ = some (.string a) := hL 0 a rfl
    have p1 := hL 1 b rfl
    have hlen : [a, b].length = 2 := rfl
    rw [hlen] at hcp ⊢
    clear HSP hL hl hlen
    obtain ⟨⟨x0, x1, x2, x3, x4⟩, f0, f1, f2, f3, f4⟩ := id X
    go_wp2_with fail
    refine (HR.out _).mono ?_
    rintro e w2 ⟨rfl, hw2⟩
    have hw2 := hw2.symm
    subst hw2
    clear p0
    go_wp2_with fail
    refine bodyPost_ret (v := .tuple #[.agg #[.int .i64 0, .string ⟨#[]⟩, .int .i64 0, .bool false, .bool false], .int .i64 R2]) (by simp [results, Tryz.results43, go_sem, x0, x1, x2, x3, x4]) rfl ⟨rfl, ?_⟩
    exact (((n1.setCell (p := ⟨w.heap.size, 0, none⟩) (Nat.le_refl _) _).setCell (p := ⟨w.heap.size, 1, none⟩) (Nat.le_refl _) _).setCell (p := ⟨w.heap.size, 2, none⟩) (Nat.le_refl _) _).setCell (p := ⟨w.heap.size, 3, none⟩) (Nat.le_refl _) _ |>.setCell (p := ⟨w.heap.size, 4, none⟩) (Nat.le_refl _) _

set_option maxRecDepth 100000 in
set_option maxHeartbeats 2000000 in
theorem refOneC_else (s D : ByteArray) (w : World) (hs : s.size ≤ 900) (hp : 0 < s.size) (h33 : (((s[0]'(by omega)).toNat : Int) == 33) = true) (h0 : ¬ s.data.toList = [45]) (hD : s.extract 1 s.size = D) (hDs : D.size ≤ 900) (h2 : (partsB 124 D).length ≠ 2) :
    Calls Tryz.prog 43 #[.string s] w fun e w' => e = .returned (.tuple #[chV zchg, .int .i64 2]) ∧ Below w.heap.size w w' := by
  obtain ⟨hq1, hq2, hq3⟩ := bar_facts h0
  have k1 : ((s.size : Int) == 0) = false := by rw [beq_eq_false_iff_ne]; omega
  have k2 : ¬ (s.size : Int) = 0 := by omega
  have k3 : (((s[0]'(by omega)).toNat : Int) != 33) = false := by simp only [bne, h33]; rfl
  have HSP := Lib.hid (fun W => refSplit_any D 124 W (by omega))
  have hl : (partsB 124 D).length ≤ 901 := by have := parts_le 124 D; omega
  generalize partsB 124 D = l at *
  have q1 : ((l.length : Int) != 2) = true := by simp; omega
  have q2 : ((l.length : Int) == 2) = false := by simp; omega
  go_enter Tryz.func43, Tryz.ntmps43
  go_wp2_with fail
  have n0 := aBelow w (.cells #[.int .i64 0, .string ⟨#[]⟩, .int .i64 0, .bool false, .bool false] 47)
  refine (HSP.out _).mono ?_
  rintro e w1 ⟨⟨v, rfl, hv⟩, n1⟩
  have X := (CZ.new w).on n1
  have n1 := n0.trans (n1.mono n0.size)
  clear n0
  obtain ⟨ad, cp, rfl, hcp, _⟩ := hv
  obtain ⟨⟨x0, x1, x2, x3, x4⟩, f0, f1, f2, f3, f4⟩ := id X
  clear HSP
  go_wp2_with fail
  refine bodyPost_ret (v := .tuple #[.agg #[.int .i64 0, .string ⟨#[]⟩, .int .i64 0, .bool false, .bool false], .int .i64 2]) (by simp [results, Tryz.results43, go_sem, x0, x1, x2, x3, x4]) rfl ⟨rfl, ?_⟩
  exact (((n1.setCell (p := ⟨w.heap.size, 0, none⟩) (Nat.le_refl _) _).setCell (p := ⟨w.heap.size, 1, none⟩) (Nat.le_refl _) _).setCell (p := ⟨w.heap.size, 2, none⟩) (Nat.le_refl _) _).setCell (p := ⟨w.heap.size, 3, none⟩) (Nat.le_refl _) _ |>.setCell (p := ⟨w.heap.size, 4, none⟩) (Nat.le_refl _) _

/-- The document's change of a part. -/
theorem refOneC_any (s : ByteArray) (w : World) (hs : s.size ≤ 900) :
    Calls Tryz.prog 43 #[.string s] w fun e w' => e = .returned (.tuple #[chV (cread s.data.toList).1, .int .i64 (cread s.data.toList).2]) ∧ Below w.heap.size w w' := by
  by_cases h0 : s.data.toList = [45]
  · have e : s = ⟨#[45]⟩ := bb_inj (by rw [h0])
    subst e
    exact refOneC_bar w
  · by_cases hz : s.size = 0
    · have hl : s.data.toList = [] := by
        have := size_list s
        rw [hz] at this
        exact List.length_eq_zero_iff.1 this.symm
      rw [cread_come h0 (by rw [hl]; simp)]
      exact refOneC_none s w hs h0 hz
    · have hp : 0 < s.size := by omega
      obtain ⟨r, hr⟩ := head_list s hp
      cases h33 : (((s[0]).toNat : Int) == 33)
      · rw [cread_come h0 (by
          rw [hr]
          intro e
          simp only [List.head?_cons, Option.some.injEq] at e
          rw [e] at h33; simp at h33)]
        exact refOneC_come s w hs h0 hp h33
      · have e33 : s[0] = 33 := by apply UInt8.toNat_inj.1; simp at h33; have h4 : (33 : UInt8).toNat = 33 := rfl; omega
        obtain ⟨D, hD⟩ : ∃ D, s.extract 1 s.size = D := ⟨_, rfl⟩
        have hDl : D.data.toList = r := by
          rw [← hD, Lib.extract_data, List.take_of_length_le (by rw [List.length_drop, ← size_list]; exact Nat.le_refl _), List.drop_one, hr]; rfl
        have hDs : D.size ≤ 900 := by
          have h1 := size_list D
          have h2 := size_list s
          rw [hDl] at h1
          rw [hr] at h2
          simp only [List.length_cons] at h2
          omega
        rw [hr, e33, cread_gone, ← hDl]
        by_cases h2 : (partsB 124 D).length = 2
        · obtain ⟨a, b, e⟩ := two_of h2
          rw [gone_two e]
          exact refOneC_two s D a b w hs hp h33 h0 hD hDs e
        · rw [gone_else h2]
          exact refOneC_else s D w hs hp h33 h0 hD hDs h2

end Go.Proofs.YtehgpibngalhfaaGreatDoor.Rw
