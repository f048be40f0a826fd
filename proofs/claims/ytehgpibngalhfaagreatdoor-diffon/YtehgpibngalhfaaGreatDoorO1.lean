/- The program's own: one that goes, which of two is first, how many stand ahead: walks. -/
import Derived.Test.YtehgpibngalhfaaGreatDoorN2
import Derived.Test.YtehgpibngalhfaaGreatDoorM9
namespace Go.Proofs.YtehgpibngalhfaaGreatDoor.Rw
open Go Go.RowKit Go.Sort Go.Lib Tg Pk Ky Qy Df

set_option maxRecDepth 100000 in
set_option maxHeartbeats 1000000 in
theorem gone_any (x1 : Int) (x2 : ByteArray) (x3 : Int) (x4 : Bool) (W : World) : Calls Tryz.prog 26 #[.agg #[.int .i64 x1, .string x2, .int .i64 x3, .bool x4]] W fun e w' => e = .returned (.agg #[.int .i64 x1, .string x2, .int .i64 0, .bool false, .bool true]) ∧ Gw W w' := by
  have g0 : Hid (Gw W (W.alloc (.cells #[.int .i64 x1, .string x2, .int .i64 x3, .bool x4] 45))) := (Gw.refl W).alloc _
  go_enter Tryz.func26, Tryz.ntmps26
  go_wp2_with fail
  refine bodyPost_ret (v := .agg #[.int .i64 x1, .string x2, .int .i64 0, .bool false, .bool true]) (by simp [results, Tryz.results26, go_sem]) rfl ⟨rfl, ?_⟩
  exact g0.out.alloc _

/-- A slice's first row. -/
theorem row_first {w : World} {v : Value} {x : Row} {l : List Row} (h : RRow w v (x :: l)) : ∃ b o c, v = .slice (some ⟨b, o, none⟩) (l.length + 1) c ∧ l.length + 1 ≤ c ∧ b < w.heap.size ∧ RLies w b o (x :: l) ∧ w.cell? ⟨b, o, none⟩ = some (.int .i64 x.win) ∧ w.cell? ⟨b, o + 1, none⟩ = some (.string x.grp) ∧ w.cell? ⟨b, o + 2, none⟩ = some (.int .i64 x.n) ∧ w.cell? ⟨b, o + 3, none⟩ = some (.bool x.ov) := by
  obtain ⟨b, o, c, hv, hc, hb, hL⟩ := h.open (by simp)
  obtain ⟨e1, e2, e3, e4⟩ := r_at hL 0 (by simp)
  exact ⟨b, o, c, hv, hc, hb, hL, e1, e2, e3, e4⟩

set_option maxRecDepth 100000 in
set_option maxHeartbeats 2000000 in
theorem ahead_two (v1 v2 : Value) (x y : Row) (l m : List Row) (w : World) (h1 : RRow w v1 (x :: l)) (h2 : RRow w v2 (y :: m)) :
    Calls Tryz.prog 25 #[v1, v2] w fun e w' => e = .returned (.bool (rlt x y)) ∧ Gw w w' := by
  obtain ⟨b1, o1, c1, rfl, -, hb1, -, e1, e2, e3, e4⟩ := row_first h1
  obtain ⟨b2, o2, c2, rfl, -, hb2, -, f1, f2, f3, f4⟩ := row_first h2
  have HB := fun W => before_any x y W
  have i1 : (0 : Int) < (l.length : Int) + 1 := by omega
  have i2 : (0 : Int) < (m.length : Int) + 1 := by omega
  have i3 : ¬ (m.length : Int) + 1 = 0 := by omega
  have i4 : ((m.length : Int) + 1 == 0) = false := by simp; omega
  clear h1 h2
  generalize rlt x y = R at *
  obtain ⟨x1, x2, x3, x4⟩ := x
  obtain ⟨y1, y2, y3, y4⟩ := y
  simp only at e1 e2 e3 e4 f1 f2 f3 f4
  have HB2 : Hid (∀ W, Calls Tryz.prog 37 #[.agg #[.int .i64 x1, .string x2, .int .i64 x3, .bool x4], .agg #[.int .i64 y1, .string y2, .int .i64 y3, .bool y4]] W fun e w' => e = .returned (.bool R) ∧ Gw W w') := HB
  have HS : Hid (TwoB b1 o1 b2 o2 x1 x2 x3 x4 y1 y2 y3 y4 w w.drew) := ⟨e1, e2, e3, e4, f1, f2, f3, f4, (Gw.refl _).drew⟩
  clear HB e1 e2 e3 e4 f1 f2 f3 f4
  go_enter Tryz.func25, Tryz.ntmps25
  go_wp2_with fail
  have hS := HS.out
  unfold TwoB at hS
  go_region_held3 (fun w' => w'.cell? ⟨b1, o1, none⟩ = some (.int .i64 x1) ∧ w'.cell? ⟨b1, o1 + 1, none⟩ = some (.string x2) ∧ w'.cell? ⟨b1, o1 + 2, none⟩ = some (.int .i64 x3) ∧ w'.cell? ⟨b1, o1 + 3, none⟩ = some (.bool x4) ∧ w'.cell? ⟨b2, o2, none⟩ = some (.int .i64 y1) ∧ w'.cell? ⟨b2, o2 + 1, none⟩ = some (.string y2) ∧ w'.cell? ⟨b2, o2 + 2, none⟩ = some (.int .i64 y3) ∧ w'.cell? ⟨b2, o2 + 3, none⟩ = some (.bool y4) ∧ Gw w w') (first | exact hS | exact hS3) (first
    | (go_at_call 37; refine (HB2.out _).mono ?_; rintro e w3 ⟨rfl, g3⟩; have hS3 := TwoB.on HS.out g3; unfold TwoB at hS3)
    | fail)
  have G := Lib.hid hS3.2.2.2.2.2.2.2.2
  clear hS3 hS HS g3 HB2
  go_wp2
  go_ret
  exact ⟨rfl, G.out⟩

set_option maxRecDepth 100000 in
set_option maxHeartbeats 1000000 in
theorem ahead_nil (v1 v2 : Value) (m : List Row) (w : World) (h1 : RRow w v1 []) (h2 : RRow w v2 m) :
    Calls Tryz.prog 25 #[v1, v2] w fun e w' => e = .returned (.bool false) ∧ Gw w w' := by
  obtain ⟨a1, c1, rfl, -, -⟩ := h1
  obtain ⟨a2, c2, rfl, -, -⟩ := h2
  go_enter Tryz.func25, Tryz.ntmps25
  go_wp2_with fail
  go_quiet (fail)
  go_wp2
  go_ret
  exact ⟨rfl, (Gw.refl w).drewN _⟩

set_option maxRecDepth 100000 in
set_option maxHeartbeats 1000000 in
theorem ahead_end (v1 v2 : Value) (x : Row) (l : List Row) (w : World) (h1 : RRow w v1 (x :: l)) (h2 : RRow w v2 []) :
    Calls Tryz.prog 25 #[v1, v2] w fun e w' => e = .returned (.bool true) ∧ Gw w w' := by
  obtain ⟨a1, c1, rfl, -, -⟩ := h1
  obtain ⟨a2, c2, rfl, -, -⟩ := h2
  have i1 : (0 : Int) < (l.length : Int) + 1 := by omega
  go_enter Tryz.func25, Tryz.ntmps25
  go_wp2_with fail
  go_quiet (fail)
  go_wp2
  go_ret
  exact ⟨rfl, (Gw.refl w).drewN _⟩

/-- Which list begins first. -/
theorem ahead_any (v1 v2 : Value) (l m : List Row) (w : World) (h1 : RRow w v1 l) (h2 : RRow w v2 m) :
    Calls Tryz.prog 25 #[v1, v2] w fun e w' => e = .returned (.bool (firstL l m)) ∧ Gw w w' := by
  cases l with
  | nil => exact ahead_nil v1 v2 m w h1 h2
  | cons x l =>
    cases m with
    | nil => exact ahead_end v1 v2 x l w h1 h2
    | cons y m => exact ahead_two v1 v2 x y l m w h1 h2

set_option maxRecDepth 100000 in
set_option maxHeartbeats 2000000 in
theorem countAhead_any (v : Value) (l : List Row) (r : Row) (w : World) (h : RRow w v l) (hn : l.length ≤ 1000000) :
    Calls Tryz.prog 36 #[v, .agg #[.int .i64 r.win, .string r.grp, .int .i64 r.n, .bool r.ov]] w fun e w' => e = .returned (.int .i64 (aheadN l r)) ∧ Gw w w' := by
  obtain ⟨a, c, rfl, _, hl⟩ := h
  obtain ⟨F, HF⟩ : ∃ F : Nat, Hid (aheadN l r = F) := ⟨_, rfl⟩
  rw [HF.out]
  have HL := Lib.hid hl
  clear hl
  obtain ⟨y1, y2, y3, y4⟩ := r
  go_enter Tryz.func36, Tryz.ntmps36
  go_wp2_with fail
  have G0 : Hid (Gw w (w.alloc (.cells #[.int .i64 y1, .string y2, .int .i64 y3, .bool y4] 45))) := (Gw.refl w).alloc _
  have r1 : (w.alloc (.cells #[.int .i64 y1, .string y2, .int .i64 y3, .bool y4] 45)).cell? ⟨w.heap.size, 0, none⟩ = some (.int .i64 y1) := by simp
  have r2 : (w.alloc (.cells #[.int .i64 y1, .string y2, .int .i64 y3, .bool y4] 45)).cell? ⟨w.heap.size, 1, none⟩ = some (.string y2) := by simp
  have r3 : (w.alloc (.cells #[.int .i64 y1, .string y2, .int .i64 y3, .bool y4] 45)).cell? ⟨w.heap.size, 2, none⟩ = some (.int .i64 y3) := by simp
  have r4 : (w.alloc (.cells #[.int .i64 y1, .string y2, .int .i64 y3, .bool y4] 45)).cell? ⟨w.heap.size, 3, none⟩ = some (.bool y4) := by simp
  have hxb : w.heap.size < (w.alloc (.cells #[.int .i64 y1, .string y2, .int .i64 y3, .bool y4] 45)).heap.size := by simp
  generalize w.alloc (.cells #[.int .i64 y1, .string y2, .int .i64 y3, .bool y4] 45) = wq at *
  generalize w.heap.size = xb at *
  go_loopw [5] (fun i wr => ∃ (k : Nat), k ≤ l.length ∧ i = .int .i64 k ∧ Hid (∀ j (hj : j < l.length), j < k → rlt l[j] ⟨y1, y2, y3, y4⟩ = true) ∧ Hid (Gw wq wr)) (fun i _ => l.length - (intOf i).toNat)
  case atStart => exact ⟨0, Nat.zero_le _, rfl, fun j _ hj => absurd hj (Nat.not_lt_zero j), Gw.refl _⟩
  case round =>
    obtain ⟨k, hk, rfl, HJ, HG⟩ := hrel
    have nb := HG.out.below
    have r1 := keepC nb r1 hxb
    have r2 := keepC nb r2 hxb
    have r3 := keepC nb r3 hxb
    have r4 := keepC nb r4 hxb
    by_cases hlt : k < l.length
    · obtain ⟨b, o, rfl, hb, hL⟩ := HL.out (ne_of_lt hlt)
      obtain ⟨e1, e2, e3, e4⟩ := r_at (hL.on hb (G0.out.trans HG.out).below) k hlt
      have i1 : (k : Int) < (l.length : Int) := by omega
      have i2 : (0 : Int) ≤ (k : Int) := by omega
      have HB := fun W => before_any l[k] ⟨y1, y2, y3, y4⟩ W
      have HN : Hid (rlt l[k] ⟨y1, y2, y3, y4⟩ = true → ∀ j (hj : j < l.length), j < k + 1 → rlt l[j] ⟨y1, y2, y3, y4⟩ = true) := fun h j hj hjk => by
        by_cases q : j < k
        · exact HJ.out j hj q
        · have : j = k := by omega
          subst this; exact h
      have HX : Hid (rlt l[k] ⟨y1, y2, y3, y4⟩ = false → F = k) := fun h => (HF.out).symm.trans (aheadN_at l _ k hk HJ.out (fun _ => h))
      have HGG := Lib.hid (G0.out.trans HG.out)
      generalize rlt l[k] ⟨y1, y2, y3, y4⟩ = R at *
      generalize l[k] = x at *
      obtain ⟨x1, x2, x3, x4⟩ := x
      simp only at e1 e2 e3 e4
      have HB2 : Hid (∀ W, Calls Tryz.prog 37 #[.agg #[.int .i64 x1, .string x2, .int .i64 x3, .bool x4], .agg #[.int .i64 y1, .string y2, .int .i64 y3, .bool y4]] W fun e w' => e = .returned (.bool R) ∧ Gw W w') := HB
      have HS : Hid (TwoB b (o + k * 4) xb 0 x1 x2 x3 x4 y1 y2 y3 y4 wr wr.drew) := ⟨e1, e2, e3, e4, r1, r2, r3, r4, (Gw.refl _).drew⟩
      clear HB HL hL hb HF nb e1 e2 e3 e4 r1 r2 r3 r4 HJ
      go_wp2_with fail
      have hS := HS.out
      unfold TwoB at hS
      go_region_held3 (fun w' => w'.cell? ⟨b, o + k * 4, none⟩ = some (.int .i64 x1) ∧ w'.cell? ⟨b, o + k * 4 + 1, none⟩ = some (.string x2) ∧ w'.cell? ⟨b, o + k * 4 + 2, none⟩ = some (.int .i64 x3) ∧ w'.cell? ⟨b, o + k * 4 + 3, none⟩ = some (.bool x4) ∧ w'.cell? ⟨xb, 0, none⟩ = some (.int .i64 y1) ∧ w'.cell? ⟨xb, 0 + 1, none⟩ = some (.string y2) ∧ w'.cell? ⟨xb, 0 + 2, none⟩ = some (.int .i64 y3) ∧ w'.cell? ⟨xb, 0 + 3, none⟩ = some (.bool y4) ∧ Gw wr w') (first | exact hS | exact hS3) (first
        | (go_at_call 37; refine (HB2.out _).mono ?_; rintro e w3 ⟨rfl, g3⟩; have hS3 := TwoB.on HS.out g3; unfold TwoB at hS3)
        | fail)
      have G := Lib.hid (HGG.out.trans hS3.2.2.2.2.2.2.2.2)
      have G1 := Lib.hid (HG.out.trans hS3.2.2.2.2.2.2.2.2)
      clear hS3 hS HS g3 HB2
      cases R
      · have HM := Lib.hid (HX.out rfl)
        go_wp2
        go_ret
        exact ⟨by first | (rw [HM.out]; done) | (rw [HM.out]; rfl), G.out⟩
      · have HM := Lib.hid (HN.out rfl)
        clear HN HX
        go_wp2
        exact ⟨⟨k + 1, by omega, by go_num, HM, G1⟩, by simp [intOf]; omega⟩
    · have i1 : ¬ (k : Int) < (l.length : Int) := by omega
      have HM := Lib.hid ((HF.out).symm.trans (aheadN_at l _ k hk HJ.out (fun h => absurd h hlt)))
      go_wp2_with fail
      go_quiet (fail)
      go_wp2
      go_ret
      exact ⟨by first | (rw [HM.out]; done) | (rw [HM.out]; rfl), (G0.out.trans HG.out).drewN _⟩
end Go.Proofs.YtehgpibngalhfaaGreatDoor.Rw
