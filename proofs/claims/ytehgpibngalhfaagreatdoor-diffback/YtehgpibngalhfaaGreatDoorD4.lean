/- Rows: too many; rising; what is wrong with a group; in order: walks of both. -/
import Derived.Test.YtehgpibngalhfaaGreatDoorD2
import Derived.Test.YtehgpibngalhfaaGreatDoorA4
namespace Go.Proofs.YtehgpibngalhfaaGreatDoor.Rw
open Go Go.RowKit Go.Sort Go.Lib Tg Pk Ky Qy

def greatR (l : List Row) : Bool := decide (100 < l.length) || l.any fun r => decide (300 < r.grp.size)
def muchI (l : List Item) : Bool := decide (100 < l.length) || l.any fun r => decide (300 < r.key.size)
theorem greatR_many {l : List Row} (h : 100 < l.length) : greatR l = true := by unfold greatR; rw [decide_eq_true h]; rfl
theorem greatR_one {l : List Row} {k : Nat} (hk : k < l.length) (h : 300 < (l[k]).grp.size) : greatR l = true := by
  unfold greatR
  have : l.any (fun r => decide (300 < r.grp.size)) = true := List.any_eq_true.2 ⟨l[k], List.getElem_mem hk, decide_eq_true h⟩
  rw [this, Bool.or_true]
theorem greatR_none {l : List Row} (h0 : ¬ 100 < l.length) (h : ∀ j (hj : j < l.length), ¬ 300 < (l[j]).grp.size) : greatR l = false := by
  unfold greatR
  have : l.any (fun r => decide (300 < r.grp.size)) = false := by
    rw [List.any_eq_false]; intro x hx
    obtain ⟨i, hi, rfl⟩ := List.mem_iff_getElem.1 hx
    simp [h i hi]
  rw [this, decide_eq_false h0]; rfl
theorem muchI_many {l : List Item} (h : 100 < l.length) : muchI l = true := by unfold muchI; rw [decide_eq_true h]; rfl
theorem muchI_one {l : List Item} {k : Nat} (hk : k < l.length) (h : 300 < (l[k]).key.size) : muchI l = true := by
  unfold muchI
  have : l.any (fun r => decide (300 < r.key.size)) = true := List.any_eq_true.2 ⟨l[k], List.getElem_mem hk, decide_eq_true h⟩
  rw [this, Bool.or_true]
theorem muchI_none {l : List Item} (h0 : ¬ 100 < l.length) (h : ∀ j (hj : j < l.length), ¬ 300 < (l[j]).key.size) : muchI l = false := by
  unfold muchI
  have : l.any (fun r => decide (300 < r.key.size)) = false := by
    rw [List.any_eq_false]; intro x hx
    obtain ⟨i, hi, rfl⟩ := List.mem_iff_getElem.1 hx
    simp [h i hi]
  rw [this, decide_eq_false h0]; rfl

set_option maxRecDepth 100000 in
set_option maxHeartbeats 1000000 in
theorem greatR_any (v : Value) (l : List Row) (w : World) (h : RRow w v l) (hs : ∀ x ∈ l, x.grp.size ≤ 281474976710656) :
    Calls Tryz.prog 9 #[v] w fun e w' => e = .returned (.bool (greatR l)) ∧ w' = w := by
  obtain ⟨a, c, rfl, hc, hl⟩ := h
  by_cases h0 : 100 < l.length
  · rw [greatR_many h0]
    have hz : (100 : Int) < (l.length : Int) := by omega
    clear hl
    go_enter Tryz.func9, Tryz.ntmps9
    go_wp2
    go_ret
    exact ⟨rfl, rfl⟩
  · have hz : ¬ (100 : Int) < (l.length : Int) := by omega
    have HL := Lib.hid hl
    have HS := Lib.hid hs
    obtain ⟨F, HF⟩ : ∃ F, Hid (greatR l = F) := ⟨_, rfl⟩
    rw [HF.out]
    clear hl hs
    go_enter Tryz.func9, Tryz.ntmps9
    go_wp2
    go_loop [3] (fun i => ∃ (k : Nat), k ≤ l.length ∧ i = .int .i64 k ∧ Hid (∀ j (hj : j < l.length), j < k → ¬ 300 < (l[j]).grp.size)) (fun i => l.length - (intOf i).toNat)
    case atStart => exact ⟨0, Nat.zero_le _, rfl, fun j _ hj => absurd hj (Nat.not_lt_zero j)⟩
    case round =>
      obtain ⟨k, hk, rfl, HT⟩ := hrel
      by_cases hlt : k < l.length
      · obtain ⟨b, o, rfl, hb, hL⟩ := HL.out (ne_of_lt hlt)
        obtain ⟨e1, e2, e3, e4⟩ := r_at hL k hlt
        have i1 : (k : Int) < (l.length : Int) := by omega
        have i2 : (0 : Int) ≤ (k : Int) := by omega
        have hsz := HS.out l[k] (List.getElem_mem hlt)
        by_cases hg : 300 < (l[k]).grp.size
        · have HM := Lib.hid ((HF.out).symm.trans (greatR_one hlt hg))
          generalize l[k] = x at *
          have hgz : (300 : Int) < (x.grp.size : Int) := by omega
          clear hL hb HL HT HS
          go_wp2_with fail
          go_ret
          exact ⟨by first | (rw [HM.out]; done) | (rw [HM.out]; rfl), rfl⟩
        · have HN : Hid (∀ j (hj : j < l.length), j < k + 1 → ¬ 300 < (l[j]).grp.size) := fun j hj hjk => by
            by_cases q : j < k
            · exact HT.out j hj q
            · have : j = k := by omega
              subst this; exact hg
          generalize l[k] = x at *
          have hgz : ¬ (300 : Int) < (x.grp.size : Int) := by omega
          clear hL hb HL HT HS
          go_wp2_with fail
          exact ⟨⟨k + 1, by omega, by go_num, HN⟩, by simp [intOf]; omega⟩
      · have HM := Lib.hid ((HF.out).symm.trans (greatR_none h0 fun j hj => HT.out j hj (by omega)))
        go_wp2_with fail
        go_ret
        exact ⟨by first | (rw [HM.out]; done) | (rw [HM.out]; rfl), rfl⟩

def TwoR (b p q : Nat) (x1 : Int) (x2 : ByteArray) (x3 : Int) (x4 : Bool) (y1 : Int) (y2 : ByteArray) (y3 : Int) (y4 : Bool) (w w' : World) : Prop := w'.cell? ⟨b, p, none⟩ = some (.int .i64 x1) ∧ w'.cell? ⟨b, p + 1, none⟩ = some (.string x2) ∧ w'.cell? ⟨b, p + 2, none⟩ = some (.int .i64 x3) ∧ w'.cell? ⟨b, p + 3, none⟩ = some (.bool x4) ∧ w'.cell? ⟨b, q, none⟩ = some (.int .i64 y1) ∧ w'.cell? ⟨b, q + 1, none⟩ = some (.string y2) ∧ w'.cell? ⟨b, q + 2, none⟩ = some (.int .i64 y3) ∧ w'.cell? ⟨b, q + 3, none⟩ = some (.bool y4) ∧ Gw w w'
theorem TwoR.on {b p q : Nat} {x1 : Int} {x2 : ByteArray} {x3 : Int} {x4 : Bool} {y1 : Int} {y2 : ByteArray} {y3 : Int} {y4 : Bool} {w w1 w2 : World} (hb : b < w.heap.size) (h : TwoR b p q x1 x2 x3 x4 y1 y2 y3 y4 w w1) (g : Gw w1 w2) : TwoR b p q x1 x2 x3 x4 y1 y2 y3 y4 w w2 := by
  obtain ⟨h0, h1, h2, h3, h4, h5, h6, h7, h8⟩ := h
  have n := g.below
  have hb1 : b < w1.heap.size := Nat.lt_of_lt_of_le hb h8.below.size
  have k : ∀ j u, w1.cell? ⟨b, j, none⟩ = some u → w2.cell? ⟨b, j, none⟩ = some u := fun j u hu => by rw [n.cell (p := ⟨b, j, none⟩) hb1]; exact hu
  exact ⟨k _ _ h0, k _ _ h1, k _ _ h2, k _ _ h3, k _ _ h4, k _ _ h5, k _ _ h6, k _ _ h7, h8.trans g⟩

set_option maxRecDepth 100000 in
set_option maxHeartbeats 2000000 in
theorem rising_any (v : Value) (l : List Row) (w : World) (h : RRow w v l) (hn : l.length ≤ 1000000) :
    Calls Tryz.prog 47 #[v] w fun e w' => e = .returned (.bool (rise l)) ∧ Gw w w' := by
  obtain ⟨a, c, rfl, hc, hl⟩ := h
  have HL := Lib.hid hl
  obtain ⟨F, HF⟩ : ∃ F, Hid (rise l = F) := ⟨_, rfl⟩
  rw [HF.out]
  clear hl
  go_enter Tryz.func47, Tryz.ntmps47
  go_wp2
  go_loopw [3] (fun i wr => ∃ (k : Nat), k ≤ l.length ∧ i = .int .i64 ((k : Int) + 1) ∧ Hid (∀ j (hj : j + 1 < l.length), j < k → rlt (l[j]'(by omega)) l[j + 1] = true) ∧ Hid (Gw w wr)) (fun i _ => l.length + 1 - (intOf i).toNat)
  case atStart => exact ⟨0, Nat.zero_le _, rfl, fun j _ hj => absurd hj (Nat.not_lt_zero j), Gw.refl _⟩
  case round =>
    obtain ⟨k, hk, rfl, HT, HG⟩ := hrel
    by_cases hlt : k + 1 < l.length
    · obtain ⟨b, o, rfl, hb, hL⟩ := HL.out (ne_of_lt hlt)
      have hlt0 : k < l.length := by omega
      have i1 : (k : Int) + 1 < (l.length : Int) := by omega
      have j1 : (0 : Int) ≤ (k : Int) + 1 := by omega
      have j2 : (k : Int) < (l.length : Int) := by omega
      have j3 : ((k : Int) + 1).toNat = k + 1 := by omega
      have j4 : IntKind.i64.wrap (k : Int) = (k : Int) := by rw [IntKind.wrap_i64]; omega
      have HN : Hid (rlt (l[k]'hlt0) l[k + 1] = true → ∀ j (hj : j + 1 < l.length), j < k + 1 → rlt (l[j]'(by omega)) l[j + 1] = true) := fun h j hj hjk => by
        by_cases q : j < k
        · exact HT.out j hj q
        · have : j = k := by omega
          subst this; exact h
      have HX : Hid (rlt (l[k]'hlt0) l[k + 1] = false → F = false) := fun h => (HF.out).symm.trans (rise_not hlt h)
      have n0 := HG.out.below
      obtain ⟨e1, e2, e3, e4⟩ := r_at (hL.on hb n0) k hlt0
      obtain ⟨f1, f2, f3, f4⟩ := r_at (hL.on hb n0) (k + 1) hlt
      have HB := fun W => before_any (l[k]'hlt0) l[k + 1] W
      have hg0 := HG.out
      clear n0 HT HL hL HG
      generalize l[k]'hlt0 = x at *
      generalize l[k + 1] = y at *
      generalize rlt x y = R at *
      obtain ⟨x1, x2, x3, x4⟩ := x
      obtain ⟨y1, y2, y3, y4⟩ := y
      simp only at e1 e2 e3 e4 f1 f2 f3 f4
      have HB2 : Hid (∀ W, Calls Tryz.prog 37 #[.agg #[.int .i64 x1, .string x2, .int .i64 x3, .bool x4], .agg #[.int .i64 y1, .string y2, .int .i64 y3, .bool y4]] W fun e w' => e = .returned (.bool R) ∧ Gw W w') := HB
      clear HB
      go_wp2_with fail
      have hS : TwoR b (o + k * 4) (o + (k + 1) * 4) x1 x2 x3 x4 y1 y2 y3 y4 w wr.drew := ⟨e1, e2, e3, e4, f1, f2, f3, f4, hg0.drew⟩
      have HS := Lib.hid hS
      clear e1 e2 e3 e4 f1 f2 f3 f4 hg0
      generalize hp : o + k * 4 = p at *
      generalize hq : o + (k + 1) * 4 = q at *
      unfold TwoR at hS
      go_region_held3 (fun w' => w'.cell? ⟨b, p, none⟩ = some (.int .i64 x1) ∧ w'.cell? ⟨b, p + 1, none⟩ = some (.string x2) ∧ w'.cell? ⟨b, p + 2, none⟩ = some (.int .i64 x3) ∧ w'.cell? ⟨b, p + 3, none⟩ = some (.bool x4) ∧ w'.cell? ⟨b, q, none⟩ = some (.int .i64 y1) ∧ w'.cell? ⟨b, q + 1, none⟩ = some (.string y2) ∧ w'.cell? ⟨b, q + 2, none⟩ = some (.int .i64 y3) ∧ w'.cell? ⟨b, q + 3, none⟩ = some (.bool y4) ∧ Gw w w') (first | exact hS | exact hS3) (first
        | (go_at_call 37; refine (HB2.out _).mono ?_; rintro e w3 ⟨rfl, g3⟩; have hS3 := TwoR.on hb HS.out g3; unfold TwoR at hS3)
        | fail)
      have G := Lib.hid hS3.2.2.2.2.2.2.2.2
      clear hS3 hS HS g3 HB2
      cases R
      · have HM := Lib.hid (HX.out rfl)
        go_wp2
        go_ret
        exact ⟨by first | (rw [HM.out]; done) | (rw [HM.out]; rfl), G.out⟩
      · have HM := Lib.hid (HN.out rfl)
        clear HN HX
        go_wp2
        exact ⟨⟨k + 1, by omega, by go_num, HM, G⟩, by simp [intOf]; omega⟩
    · have HM := Lib.hid ((HF.out).symm.trans ((rise_iff l).2 fun j hj => HT.out j hj (by omega)))
      have i1 : ¬ (k : Int) + 1 < (l.length : Int) := by omega
      go_wp2
      go_ret
      exact ⟨by first | (rw [HM.out]; done) | (rw [HM.out]; rfl), HG.out⟩

set_option maxRecDepth 100000 in
set_option maxHeartbeats 2000000 in
theorem refRise_any (v : Value) (l : List Row) (w : World) (h : RRow w v l) (hn : l.length ≤ 1000000) :
    Calls Tryz.prog 45 #[v] w fun e w' => e = .returned (.bool (rise l)) ∧ Gw w w' := by
  obtain ⟨a, c, rfl, hc, hl⟩ := h
  have HL := Lib.hid hl
  obtain ⟨F, HF⟩ : ∃ F, Hid (rise l = F) := ⟨_, rfl⟩
  rw [HF.out]
  clear hl
  go_enter Tryz.func45, Tryz.ntmps45
  go_wp2
  go_loopw [3] (fun i wr => ∃ (k : Nat), k ≤ l.length ∧ i = .int .i64 ((k : Int) + 1) ∧ Hid (∀ j (hj : j + 1 < l.length), j < k → rlt (l[j]'(by omega)) l[j + 1] = true) ∧ Hid (Gw w wr)) (fun i _ => l.length + 1 - (intOf i).toNat)
  case atStart => exact ⟨0, Nat.zero_le _, rfl, fun j _ hj => absurd hj (Nat.not_lt_zero j), Gw.refl _⟩
  case round =>
    obtain ⟨k, hk, rfl, HT, HG⟩ := hrel
    by_cases hlt : k + 1 < l.length
    · obtain ⟨b, o, rfl, hb, hL⟩ := HL.out (ne_of_lt hlt)
      have hlt0 : k < l.length := by omega
      have i1 : (k : Int) + 1 < (l.length : Int) := by omega
      have j1 : (0 : Int) ≤ (k : Int) + 1 := by omega
      have j2 : (k : Int) < (l.length : Int) := by omega
      have j3 : ((k : Int) + 1).toNat = k + 1 := by omega
      have j4 : IntKind.i64.wrap (k : Int) = (k : Int) := by rw [IntKind.wrap_i64]; omega
      have HN : Hid (rlt (l[k]'hlt0) l[k + 1] = true → ∀ j (hj : j + 1 < l.length), j < k + 1 → rlt (l[j]'(by omega)) l[j + 1] = true) := fun h j hj hjk => by
        by_cases q : j < k
        · exact HT.out j hj q
        · have : j = k := by omega
          subst this; exact h
      have HX : Hid (rlt (l[k]'hlt0) l[k + 1] = false → F = false) := fun h => (HF.out).symm.trans (rise_not hlt h)
      have n0 := HG.out.below
      obtain ⟨e1, e2, e3, e4⟩ := r_at (hL.on hb n0) k hlt0
      obtain ⟨f1, f2, f3, f4⟩ := r_at (hL.on hb n0) (k + 1) hlt
      have HB := fun W => refBefore_any (l[k]'hlt0) l[k + 1] W
      have hg0 := HG.out
      clear n0 HT HL hL HG
      generalize l[k]'hlt0 = x at *
      generalize l[k + 1] = y at *
      generalize rlt x y = R at *
      obtain ⟨x1, x2, x3, x4⟩ := x
      obtain ⟨y1, y2, y3, y4⟩ := y
      simp only at e1 e2 e3 e4 f1 f2 f3 f4
      have HB2 : Hid (∀ W, Calls Tryz.prog 38 #[.agg #[.int .i64 x1, .string x2, .int .i64 x3, .bool x4], .agg #[.int .i64 y1, .string y2, .int .i64 y3, .bool y4]] W fun e w' => e = .returned (.bool R) ∧ Gw W w') := HB
      clear HB
      go_wp2_with fail
      have hS : TwoR b (o + k * 4) (o + (k + 1) * 4) x1 x2 x3 x4 y1 y2 y3 y4 w wr.drew := ⟨e1, e2, e3, e4, f1, f2, f3, f4, hg0.drew⟩
      have HS := Lib.hid hS
      clear e1 e2 e3 e4 f1 f2 f3 f4 hg0
      generalize hp : o + k * 4 = p at *
      generalize hq : o + (k + 1) * 4 = q at *
      unfold TwoR at hS
      go_region_held3 (fun w' => w'.cell? ⟨b, p, none⟩ = some (.int .i64 x1) ∧ w'.cell? ⟨b, p + 1, none⟩ = some (.string x2) ∧ w'.cell? ⟨b, p + 2, none⟩ = some (.int .i64 x3) ∧ w'.cell? ⟨b, p + 3, none⟩ = some (.bool x4) ∧ w'.cell? ⟨b, q, none⟩ = some (.int .i64 y1) ∧ w'.cell? ⟨b, q + 1, none⟩ = some (.string y2) ∧ w'.cell? ⟨b, q + 2, none⟩ = some (.int .i64 y3) ∧ w'.cell? ⟨b, q + 3, none⟩ = some (.bool y4) ∧ Gw w w') (first | exact hS | exact hS3) (first
        | (go_at_call 38; refine (HB2.out _).mono ?_; rintro e w3 ⟨rfl, g3⟩; have hS3 := TwoR.on hb HS.out g3; unfold TwoR at hS3)
        | fail)
      have G := Lib.hid hS3.2.2.2.2.2.2.2.2
      clear hS3 hS HS g3 HB2
      cases R
      · have HM := Lib.hid (HX.out rfl)
        go_wp2
        go_ret
        exact ⟨by first | (rw [HM.out]; done) | (rw [HM.out]; rfl), G.out⟩
      · have HM := Lib.hid (HN.out rfl)
        clear HN HX
        go_wp2
        exact ⟨⟨k + 1, by omega, by go_num, HM, G⟩, by simp [intOf]; omega⟩
    · have HM := Lib.hid ((HF.out).symm.trans ((rise_iff l).2 fun j hj => HT.out j hj (by omega)))
      have i1 : ¬ (k : Int) + 1 < (l.length : Int) := by omega
      go_wp2
      go_ret
      exact ⟨by first | (rw [HM.out]; done) | (rw [HM.out]; rfl), HG.out⟩

end Go.Proofs.YtehgpibngalhfaaGreatDoor.Rw
