/- Walks: a query that is read: its names behind by; all words. Walks: a query that is read: all its words. -/
import Derived.Test.YtfohknpjlkjbbaaGreatDoorQB
import Derived.Test.YtfohknpjlkjbbaaGreatDoorQ6
namespace Go.Proofs.YtfohknpjlkjbbaaGreatDoor
open Go Go.RowKit Tg Pk Ky Qy

theorem partsB_Q (u : ByteArray) : partsB 44 u = partsQ u.data.toList := rfl
theorem partsQ_small (u : ByteArray) {M : Nat} (h : u.size ≤ M) : (partsQ u.data.toList).length ≤ M + 1 ∧ ∀ x ∈ partsQ u.data.toList, x.size ≤ M := by
  have hz := size_l u
  constructor
  · unfold partsQ
    rw [List.length_map]
    have := parts_many 44 u.data.toList
    omega
  · intro x hx
    unfold partsQ at hx
    obtain ⟨p, hp, rfl⟩ := List.mem_map.1 hx
    have := parts_small 44 _ p hp
    rw [← size_l, bb_list]
    omega
theorem Row.far {w w1 : World} {b bw c : Nat} {l : List ByteArray} (h : Lies w bw 0 l) (hc : l.length ≤ c) (hlt : bw < w.heap.size) (hne : bw ≠ b) (g : w.grownBy w1 (some b)) : Row w1 (.slice (some ⟨bw, 0, none⟩) l.length c) l :=
  ⟨_, c, rfl, hc, fun _ => ⟨bw, 0, rfl, Nat.lt_of_lt_of_le hlt g.size, h.far hlt hne g⟩⟩

set_option maxHeartbeats 1000000 in
theorem readBy_any (b : Nat) (g : Int) (n : ByteArray) (m l s : Value) (u : ByteArray) (w : World) (hE : Env w) (h : RB w b g n m l s) (hs : u.size ≤ 900) :
    Calls Tryz.prog 72 #[.pointer (some ⟨b, 0, none⟩), .string u] w fun e w' => e = .returned (.int .i64 (byE (partsQ u.data.toList))) ∧ w.grownBy w' (some b) ∧ ∃ a c, RB w' b g n m (.slice a (partsQ u.data.toList).length c) s ∧ Row w' (.slice a (partsQ u.data.toList).length c) (partsQ u.data.toList) := by
  have HS := Lib.hid (split_any u 44 w hE (by omega))
  have hlt := h.lt
  obtain ⟨p1, p2⟩ := partsQ_small u hs
  have hL := splitW_lies 44 u w
  have hzs := splitW_size 44 u w
  have hb1 := splitW_below 44 u w
  have R1 := h.on hb1
  have G1 := Lib.grownBy_below (World.grownBy.refl w (some b)) hb1
  rw [partsB_Q] at hL
  have hg2 := Lib.grownBy_setCell (splitW 44 u w) b 3 (.slice (some ⟨w.heap.size + 1, 0, none⟩) (partsQ u.data.toList).length (partsQ u.data.toList).length)
  have r3 := Row.far hL (Nat.le_refl _) (by omega) (by omega) hg2
  have R3 := R1.set3 (.slice (some ⟨w.heap.size + 1, 0, none⟩) (partsQ u.data.toList).length (partsQ u.data.toList).length)
  have G3 := Lib.grownBy_setB G1 3 (.slice (some ⟨w.heap.size + 1, 0, none⟩) (partsQ u.data.toList).length (partsQ u.data.toList).length)
  have HC := Lib.hid (checkBy_any _ _ _ r3 (by omega) (fun x hx => by have := p2 x hx; omega))
  rw [partsB_Q] at HS
  generalize partsQ u.data.toList = P at *
  generalize splitW 44 u w = wa at *
  have HX := Lib.hid (And.intro G3 (And.intro R3 r3))
  obtain ⟨⟨x0, x1, x2, x3, x4⟩, ⟨f0, f1, f2, f3, f4⟩, _⟩ := id R1
  obtain ⟨⟨y0, y1, y2, y3, y4⟩, _, _⟩ := id R3
  clear G3 R3 r3 hg2 G1 R1 hL hE h p2 hs
  go_enter Tryz.func72, Tryz.ntmps72
  go_wp2_with fail
  refine (HS.out).mono ?_
  rintro e w1 ⟨rfl, hw⟩
  subst hw
  go_wp2_with fail
  clear x0 x1 x2 x3 x4 f0 f1 f2 f3 f4 y0 y1 y2 y3 y4
  refine (HC.out).mono ?_
  rintro e w2 ⟨rfl, n2⟩
  obtain ⟨G3, R3, r3⟩ := HX.out
  have G4 := Lib.grownBy_below G3 n2
  have R4 := R3.on n2
  have r4 := r3.on n2
  clear G3 R3 r3 n2 HX
  go_wp2_with fail
  go_ret
  exact ⟨rfl, G4, _, _, R4, r4⟩

/-- What is wrong with a query's words; no fault: 0. -/
theorem qread_series {x y : List UInt8} {B : List ByteArray} (ha : ¬ aggN x = 0) (h : ¬ serE y = 0) : qread x y B = (qnone, serE y) := by
  unfold qread
  rw [if_neg ha]
  cases hk : kcut y with
  | none => rw [serE_none hk]
  | some p =>
    simp only
    cases hp : Word.name p.1
    · rw [serE_form hk hp]; simp
    · rw [serE_some hk hp] at h ⊢
      simp [h]
theorem qread_by {x y : List UInt8} {B : List ByteArray} (ha : ¬ aggN x = 0) (h : serE y = 0) : ∃ p, kcut y = some p ∧ Word.name p.1 = true ∧ (pparse p.2).2 = 0 ∧ qread x y B = if byE B = 0 then ((aggN x, bb p.1, (pparse p.2).1, B), 0) else (qnone, byE B) := by
  cases hk : kcut y with
  | none => rw [serE_none hk] at h; cases h
  | some p =>
    refine ⟨p, rfl, ?_⟩
    cases hp : Word.name p.1
    · rw [serE_form hk hp] at h; cases h
    · rw [serE_some hk hp] at h
      refine ⟨rfl, h, ?_⟩
      unfold qread
      rw [if_neg ha, hk]
      simp only
      rw [if_pos hp, if_pos h]
theorem qread_agg {x y : List UInt8} {B : List ByteArray} (ha : aggN x = 0) : qread x y B = (qnone, 2) := by unfold qread; rw [if_pos ha]
end Go.Proofs.YtfohknpjlkjbbaaGreatDoor
namespace Go.Proofs.YtfohknpjlkjbbaaGreatDoor
open Go Go.RowKit Tg Pk Ky Qy

def listsW (ws : List ByteArray) : List (List UInt8) := ws.map (·.data.toList)
/-- What is read of some words. -/
def QP (ws : List ByteArray) : Query × Int := qparseW (listsW ws)
theorem QP_two (x y : ByteArray) : QP [x, y] = qread x.data.toList y.data.toList [] := rfl
theorem QP_four (x y z u : ByteArray) : QP [x, y, z, u] = if eqB z ⟨#[98, 121]⟩ then qread x.data.toList y.data.toList (partsQ u.data.toList) else (qnone, 2) := by
  show (if z.data.toList = wby then _ else _) = _
  by_cases h : z.data.toList = wby
  · rw [if_pos h, if_pos]
    unfold eqB
    rw [beq_iff_eq]
    exact h
  · rw [if_neg h, if_neg]
    unfold eqB
    rw [beq_iff_eq]
    exact h
theorem QP_else {ws : List ByteArray} (h2 : ws.length ≠ 2) (h4 : ws.length ≠ 4) : QP ws = (qnone, 2) := by
  unfold QP qparseW listsW
  split
  · rename_i h
    have := congrArg List.length h
    simp at this
    exact absurd this h2
  · rename_i h
    have := congrArg List.length h
    simp at this
    exact absurd this h4
  · rfl
theorem shaped_two (x y : ByteArray) : shapedW [x, y] = true := rfl
theorem shaped_four (x y z u : ByteArray) : shapedW [x, y, z, u] = eqB z ⟨#[98, 121]⟩ := by simp [shapedW]
theorem shaped_else {ws : List ByteArray} (h2 : ws.length ≠ 2) (h4 : ws.length ≠ 4) : shapedW ws = false := by simp [shapedW, h2, h4]
/-- What lies in the box, once all is read. -/
def Told (w : World) (b : Nat) (s : Value) (q : Query) : Prop := ∃ a c a' c', RB w b q.1 q.2.1 (.slice a q.2.2.1.length c) (.slice a' q.2.2.2.length c') s ∧ MRow w (.slice a q.2.2.1.length c) q.2.2.1 ∧ Row w (.slice a' q.2.2.2.length c') q.2.2.2

set_option maxHeartbeats 1000000 in
theorem read_not (b : Nat) (g : Int) (n : ByteArray) (m l s : Value) (ws : List ByteArray) (w : World) (h : RB w b g n m l s) (hw : WRow w b s ws) (hsh : shapedW ws = false) :
    Calls Tryz.prog 41 #[.pointer (some ⟨b, 0, none⟩)] w fun e w' => e = .returned (.int .i64 2) ∧ w.grownBy w' (some b) := by
  have H1 := Lib.hid (shaped_any b g n m l s ws w h hw)
  rw [hsh] at H1
  clear h hw hsh
  go_enter Tryz.func41, Tryz.ntmps41
  go_wp2_with fail
  refine (H1.out).mono ?_
  rintro e w1 ⟨rfl, hw⟩
  have hw := hw.symm
  subst hw
  go_wp2_with fail
  go_ret
  exact ⟨rfl, World.grownBy.refl _ _⟩

set_option maxRecDepth 100000 in
set_option maxHeartbeats 1000000 in
theorem read_two (b bw cw : Nat) (x y : ByteArray) (w : World) (hE : Env w) (hb : 0 < b) (h : RB w b 0 ⟨#[]⟩ (.slice none 0 0) (.slice none 0 0) (.slice (some ⟨bw, 0, none⟩) 2 cw)) (hcw : 2 ≤ cw) (hne : bw ≠ b) (hlt : bw < w.heap.size) (hL : Lies w bw 0 [x, y]) (hy : y.size ≤ 900) :
    Calls Tryz.prog 41 #[.pointer (some ⟨b, 0, none⟩)] w fun e w' => e = .returned (.int .i64 (qread x.data.toList y.data.toList []).2) ∧ w.grownBy w' (some b) ∧ ((qread x.data.toList y.data.toList []).2 = 0 → Told w' b (.slice (some ⟨bw, 0, none⟩) 2 cw) (qread x.data.toList y.data.toList []).1) := by
  have hw : WRow w b (.slice (some ⟨bw, 0, none⟩) 2 cw) [x, y] := ⟨bw, cw, rfl, hcw, hne, hlt, hL⟩
  have H1 := Lib.hid (shaped_any b _ _ _ _ _ [x, y] w h hw)
  rw [shaped_two] at H1
  have H2 := Lib.hid (readAgg_any b _ _ _ _ _ x w h)
  have HN := Lib.hid hne
  have HLt := Lib.hid hlt
  have HL := Lib.hid hL
  have hx0 : w.cell? ⟨bw, 0, none⟩ = some (.string x) := hL 0 x rfl
  clear hw hL hne hlt
  obtain ⟨⟨x0, x1, x2, x3, x4⟩, _, _⟩ := id h
  by_cases ha : aggN x.data.toList = 0
  · rw [qread_agg ha]
    rw [decide_eq_false (by simp [ha])] at H2
    go_enter Tryz.func41, Tryz.ntmps41
    go_wp2_with fail
    refine (H1.out).mono ?_
    rintro e w1 ⟨rfl, hw⟩
    have hw := hw.symm
    subst hw
    go_wp2_with fail
    refine (H2.out).mono ?_
    rintro e w1 ⟨rfl, _, hw⟩
    have hw := (hw ha).symm
    subst hw
    go_wp2_with fail
    go_ret
    exact ⟨rfl, World.grownBy.refl _ _, fun h => absurd h (by decide)⟩
  · rw [decide_eq_true ha] at H2
    have G1 := Lib.grownBy_setB (World.grownBy.refl w (some b)) 0 (.int .i64 (aggN x.data.toList))
    have R1 := h.set0 (aggN x.data.toList)
    have E1 := hE.far hb G1
    have H3 := Lib.hid (series_any b _ _ _ _ _ _ _ _ y _ E1 hb R1 hy)
    have HS1 := Lib.hid (fun (hs : ¬ serE y.data.toList = 0) => qread_series (B := []) ha hs)
    have HS2 := Lib.hid (fun (hs : serE y.data.toList = 0) => qread_by (B := []) ha hs)
    have L1 := HL.out.far HLt.out HN.out G1
    have z1 : bw < (w.setCell ⟨b, 0, none⟩ (.int .i64 (aggN x.data.toList))).heap.size := Nat.lt_of_lt_of_le HLt.out G1.size
    have vy := L1 1 y rfl
    have HA := Lib.hid ha
    obtain ⟨⟨y0, y1, y2, y3, y4⟩, _, _⟩ := id R1
    clear h
    have H2 : Hid (Calls Tryz.prog 70 #[.pointer (some ⟨b, 0, none⟩), .string x] w fun e w' => e = .returned (.bool true) ∧ w' = w.setCell ⟨b, 0, none⟩ (.int .i64 (aggN x.data.toList))) := (H2.out).mono fun e w' ⟨h1, h2, _⟩ => ⟨h1, h2 ha⟩
    generalize aggN x.data.toList = A at *
    generalize w.setCell ⟨b, 0, none⟩ (.int .i64 A) = wa at *
    generalize hse : serE y.data.toList = SE at *
    have HSE := Lib.hid hse
    clear hse
    go_enter Tryz.func41, Tryz.ntmps41
    go_wp2_with fail
    refine (H1.out).mono ?_
    rintro e w1 ⟨rfl, hw⟩
    have hw := hw.symm
    subst hw
    go_wp2_with fail
    refine (H2.out).mono ?_
    rintro e w1 ⟨rfl, hw⟩
    subst hw
    clear x0 x1 x2 x3 x4 hx0
    go_wp2_with fail
    refine (H3.out).mono ?_
    rintro e w2 ⟨rfl, G2, hX⟩
    have HX := Lib.hid hX
    clear y0 y1 y2 y3 y4 vy hX
    have G3 := Lib.grownBy_trans G1 G2
    by_cases hs : SE = 0
    · subst hs
      obtain ⟨p, k1, k2, k3, k4⟩ := HS2.out rfl
      obtain ⟨am, cm, R2, M2⟩ := HX.out p k1 k2
      have K4 := Lib.hid k4
      have L2 := L1.far z1 HN.out G2
      have z2 : bw < w2.heap.size := Nat.lt_of_lt_of_le z1 G2.size
      clear k4 HX HS1 HS2 G2
      obtain ⟨⟨y0, y1, y2, y3, y4⟩, _, _⟩ := id R2
      have HT : Hid (Told w2 b (.slice (some ⟨bw, 0, none⟩) 2 cw) (A, bb p.1, (pparse p.2).1, [])) := ⟨am, cm, none, 0, R2, M2, Row.nil w2⟩
      clear R2 M2 L1 L2 R1
      go_wp2_with fail
      go_ret
      refine ⟨?_, G3, fun _ => ?_⟩
      · rw [K4.out]; rfl
      · rw [K4.out]; exact HT.out
    · have hq : (SE == 0) = false := by simp [hs]
      have K4 := Lib.hid (HS1.out hs)
      have HSN := Lib.hid hs
      clear HS1 HS2 HX L1 R1
      go_wp2_with fail
      go_ret
      refine ⟨?_, G3, fun h0 => ?_⟩
      · rw [K4.out]; rfl
      · rw [K4.out] at h0; exact absurd h0 HSN.out

set_option maxRecDepth 100000 in
set_option maxHeartbeats 1000000 in
theorem read_four (b bw cw : Nat) (x y z u : ByteArray) (w : World) (hE : Env w) (hb : 0 < b) (h : RB w b 0 ⟨#[]⟩ (.slice none 0 0) (.slice none 0 0) (.slice (some ⟨bw, 0, none⟩) 4 cw)) (hcw : 4 ≤ cw) (hne : bw ≠ b) (hlt : bw < w.heap.size) (hL : Lies w bw 0 [x, y, z, u]) (hz : eqB z ⟨#[98, 121]⟩ = true) (hy : y.size ≤ 900) (hu : u.size ≤ 900) :
    Calls Tryz.prog 41 #[.pointer (some ⟨b, 0, none⟩)] w fun e w' => e = .returned (.int .i64 (qread x.data.toList y.data.toList (partsQ u.data.toList)).2) ∧ w.grownBy w' (some b) ∧ ((qread x.data.toList y.data.toList (partsQ u.data.toList)).2 = 0 → Told w' b (.slice (some ⟨bw, 0, none⟩) 4 cw) (qread x.data.toList y.data.toList (partsQ u.data.toList)).1) := by
  have hw : WRow w b (.slice (some ⟨bw, 0, none⟩) 4 cw) [x, y, z, u] := ⟨bw, cw, rfl, hcw, hne, hlt, hL⟩
  have H1 := Lib.hid (shaped_any b _ _ _ _ _ [x, y, z, u] w h hw)
  rw [shaped_four, hz] at H1
  have H2 := Lib.hid (readAgg_any b _ _ _ _ _ x w h)
  have HN := Lib.hid hne
  have HLt := Lib.hid hlt
  have HL := Lib.hid hL
  have hx0 : w.cell? ⟨bw, 0, none⟩ = some (.string x) := hL 0 x rfl
  clear hw hL hne hlt
  obtain ⟨⟨x0, x1, x2, x3, x4⟩, _, _⟩ := id h
  by_cases ha : aggN x.data.toList = 0
  · rw [qread_agg ha]
    rw [decide_eq_false (by simp [ha])] at H2
    go_enter Tryz.func41, Tryz.ntmps41
    go_wp2_with fail
    refine (H1.out).mono ?_
    rintro e w1 ⟨rfl, hw⟩
    have hw := hw.symm
    subst hw
    go_wp2_with fail
    refine (H2.out).mono ?_
    rintro e w1 ⟨rfl, _, hw⟩
    have hw := (hw ha).symm
    subst hw
    go_wp2_with fail
    go_ret
    exact ⟨rfl, World.grownBy.refl _ _, fun h => absurd h (by decide)⟩
  · rw [decide_eq_true ha] at H2
    have G1 := Lib.grownBy_setB (World.grownBy.refl w (some b)) 0 (.int .i64 (aggN x.data.toList))
    have R1 := h.set0 (aggN x.data.toList)
    have E1 := hE.far hb G1
    have H3 := Lib.hid (series_any b _ _ _ _ _ _ _ _ y _ E1 hb R1 hy)
    have HS1 := Lib.hid (fun (hs : ¬ serE y.data.toList = 0) => qread_series (B := (partsQ u.data.toList)) ha hs)
    have HS2 := Lib.hid (fun (hs : serE y.data.toList = 0) => qread_by (B := (partsQ u.data.toList)) ha hs)
    have L1 := HL.out.far HLt.out HN.out G1
    have z1 : bw < (w.setCell ⟨b, 0, none⟩ (.int .i64 (aggN x.data.toList))).heap.size := Nat.lt_of_lt_of_le HLt.out G1.size
    have vy := L1 1 y rfl
    have HA := Lib.hid ha
    obtain ⟨⟨y0, y1, y2, y3, y4⟩, _, _⟩ := id R1
    clear h
    have H2 : Hid (Calls Tryz.prog 70 #[.pointer (some ⟨b, 0, none⟩), .string x] w fun e w' => e = .returned (.bool true) ∧ w' = w.setCell ⟨b, 0, none⟩ (.int .i64 (aggN x.data.toList))) := (H2.out).mono fun e w' ⟨h1, h2, _⟩ => ⟨h1, h2 ha⟩
    generalize aggN x.data.toList = A at *
    generalize w.setCell ⟨b, 0, none⟩ (.int .i64 A) = wa at *
    generalize hse : serE y.data.toList = SE at *
    have HSE := Lib.hid hse
    clear hse
    go_enter Tryz.func41, Tryz.ntmps41
    go_wp2_with fail
    refine (H1.out).mono ?_
    rintro e w1 ⟨rfl, hw⟩
    have hw := hw.symm
    subst hw
    go_wp2_with fail
    refine (H2.out).mono ?_
    rintro e w1 ⟨rfl, hw⟩
    subst hw
    clear x0 x1 x2 x3 x4 hx0
    go_wp2_with fail
    refine (H3.out).mono ?_
    rintro e w2 ⟨rfl, G2, hX⟩
    have HX := Lib.hid hX
    clear y0 y1 y2 y3 y4 vy hX
    have G3 := Lib.grownBy_trans G1 G2
    by_cases hs : SE = 0
    · subst hs
      obtain ⟨p, k1, k2, k3, k4⟩ := HS2.out rfl
      obtain ⟨am, cm, R2, M2⟩ := HX.out p k1 k2
      have K4 := Lib.hid k4
      have L2 := L1.far z1 HN.out G2
      have z2 : bw < w2.heap.size := Nat.lt_of_lt_of_le z1 G2.size
      clear k4 HX HS1 HS2 G2
      obtain ⟨⟨y0, y1, y2, y3, y4⟩, _, _⟩ := id R2
      have E2 := hE.far hb G3
      have H4 := Lib.hid (readBy_any b _ _ _ _ _ u w2 E2 R2 hu)
      have vu := L2 3 u rfl
      clear L1 L2 R1
      go_wp2_with fail
      refine (H4.out).mono ?_
      rintro e w3 ⟨rfl, G4, a4, c4, R4, r4⟩
      have M4 := mrow_far R2 M2 G4
      have G5 := Lib.grownBy_trans G3 G4
      have HT : Hid (Told w3 b (.slice (some ⟨bw, 0, none⟩) 4 cw) (A, bb p.1, (pparse p.2).1, (partsQ u.data.toList))) := ⟨am, cm, a4, c4, R4, M4, r4⟩
      clear y0 y1 y2 y3 y4 vu R4 M4 r4 R2 M2 H4 G4
      go_wp2_with fail
      go_ret
      refine ⟨?_, G5, fun h0 => ?_⟩
      · rw [K4.out]
        by_cases h0 : byE (partsQ u.data.toList) = 0
        · rw [if_pos h0]; exact ret_i h0
        · rw [if_neg h0]; rfl
      · rw [K4.out] at h0 ⊢
        by_cases h1 : byE (partsQ u.data.toList) = 0
        · rw [if_pos h1]; exact HT.out
        · rw [if_neg h1] at h0; exact absurd h0 h1
    · have hq : (SE == 0) = false := by simp [hs]
      have K4 := Lib.hid (HS1.out hs)
      have HSN := Lib.hid hs
      clear HS1 HS2 HX L1 R1
      go_wp2_with fail
      go_ret
      refine ⟨?_, G3, fun h0 => ?_⟩
      · rw [K4.out]; rfl
      · rw [K4.out] at h0; exact absurd h0 HSN.out
end Go.Proofs.YtfohknpjlkjbbaaGreatDoor
