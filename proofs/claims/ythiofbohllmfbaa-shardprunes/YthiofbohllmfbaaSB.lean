/- Shards, the same; in order: walks of the document's. -/
import Derived.Test.YthiofbohllmfbaaSA
namespace Go.Proofs.Ythiofbohllmfbaa.Sh
open Go Go.RowKit Go.Sort Go.Lib Cl Ce Ch

/-- Two slices' boxes, and an entry of each, as they lie. -/
def TwoE (x1 x2 : Nat) (v1 v2 : Value) (b1 o1 b2 o2 : Nat) (p0 : Int) (p1 : ByteArray) (s1 : Value) (q0 : Int) (q1 : ByteArray) (s2 : Value) (w' : World) : Prop :=
  w'.cell? ⟨x1, 0, none⟩ = some v1 ∧ w'.cell? ⟨x2, 0, none⟩ = some v2 ∧ w'.cell? ⟨b1, o1, none⟩ = some (.int .i64 p0) ∧ w'.cell? ⟨b1, o1 + 1, none⟩ = some (.string p1) ∧ w'.cell? ⟨b1, o1 + 2, none⟩ = some s1 ∧ w'.cell? ⟨b2, o2, none⟩ = some (.int .i64 q0) ∧ w'.cell? ⟨b2, o2 + 1, none⟩ = some (.string q1) ∧ w'.cell? ⟨b2, o2 + 2, none⟩ = some s2
theorem cell_kept {w : World} {a : Addr} {u : Value} (h : w.cell? a = some u) (o : Obj) : (w.alloc o).cell? a = some u := by
  rw [World.cell?_alloc_lt _ _ _ (World.block_lt_of_cell? w a h)]; exact h
theorem TwoE.alloc {x1 x2 : Nat} {v1 v2 : Value} {b1 o1 b2 o2 : Nat} {p0 : Int} {p1 : ByteArray} {s1 : Value} {q0 : Int} {q1 : ByteArray} {s2 : Value} {w' : World} (h : TwoE x1 x2 v1 v2 b1 o1 b2 o2 p0 p1 s1 q0 q1 s2 w') (o : Obj) : TwoE x1 x2 v1 v2 b1 o1 b2 o2 p0 p1 s1 q0 q1 s2 (w'.alloc o) := by
  obtain ⟨h0, h1, h2, h3, h4, h5, h6, h7⟩ := h
  exact ⟨cell_kept h0 o, cell_kept h1 o, cell_kept h2 o, cell_kept h3 o, cell_kept h4 o, cell_kept h5 o, cell_kept h6 o, cell_kept h7 o⟩
theorem eqE_parts {p0 q0 : Int} {p1 q1 : ByteArray} {p2 q2 : List Ver} (t1 t2 t3 : Bool) (h1 : (p0 == q0) = t1) (h2 : (p1.toList == q1.toList) = t2) (h3 : sameV p2 q2 = t3) : eqE ⟨p0, p1, p2⟩ ⟨q0, q1, q2⟩ = (t1 && t2 && t3) := by
  unfold eqE
  rw [← h1, ← h2, ← h3, beq_ba]; rfl

set_option maxRecDepth 100000 in
set_option maxHeartbeats 4000000 in
theorem refSameS_any (v1 v2 : Value) (l m : List Ent) (w : World) (h1 : SRow w v1 l) (h2 : SRow w v2 m) (hn : l.length ≤ 1000000) (hv : ∀ e ∈ l, e.vs.length ≤ 1000000) :
    Calls Try.prog 13 #[.agg #[v1], .agg #[v2]] w fun e w' => e = .returned (.bool (sameS l m)) ∧ Below w.heap.size w w' := by
  obtain ⟨a1, c1, rfl, _, hl1⟩ := h1.at
  obtain ⟨a2, c2, rfl, _, hl2⟩ := h2.at
  have d0 := Lib.hid (aBelow2 w (.cells #[.slice a1 l.length c1] 24) (.cells #[.slice a2 m.length c2] 24))
  by_cases hlen : l.length = m.length
  · have HL1 := Lib.hid (hl1.on d0.out)
    have HL2 := Lib.hid (hl2.on d0.out)
    have HV := Lib.hid (fun k (hk : k < l.length) => hv _ (List.getElem_mem hk))
    obtain ⟨F, HF⟩ : ∃ F, Hid (sameS l m = F) := ⟨_, rfl⟩
    rw [HF.out]
    have HLEN := Lib.hid hlen
    rw [← hlen] at d0 ⊢
    clear hl1 hl2 hlen h1 h2 hv
    go_enter Try.func13, Try.ntmps13
    go_wp2_with fail
    have B1 : ((w.alloc (.cells #[.slice a1 l.length c1] 24)).alloc (.cells #[.slice a2 l.length c2] 24)).cell? ⟨w.heap.size, 0, none⟩ = some (.slice a1 l.length c1) := by simp
    have B2 : ((w.alloc (.cells #[.slice a1 l.length c1] 24)).alloc (.cells #[.slice a2 l.length c2] 24)).cell? ⟨w.heap.size + 1, 0, none⟩ = some (.slice a2 l.length c2) := by simp
    have hb1 : w.heap.size < ((w.alloc (.cells #[.slice a1 l.length c1] 24)).alloc (.cells #[.slice a2 l.length c2] 24)).heap.size := by simp; omega
    have hb2 : w.heap.size + 1 < ((w.alloc (.cells #[.slice a1 l.length c1] 24)).alloc (.cells #[.slice a2 l.length c2] 24)).heap.size := by simp
    rw [← HLEN.out] at HL1 HL2
    generalize (w.alloc (.cells #[.slice a1 l.length c1] 24)).alloc (.cells #[.slice a2 l.length c2] 24) = w0 at *
    generalize hx2 : w.heap.size + 1 = x2 at *
    generalize hx1 : w.heap.size = x1 at *
    have HX1 := Lib.hid hx1
    clear hx1 hx2
    go_loopw [5] (fun i wr => ∃ k : Nat, k ≤ l.length ∧ i = .int .i64 k ∧ Hid (Below w0.heap.size w0 wr) ∧ Hid (∀ j (h1 : j < l.length) (h2 : j < m.length), j < k → eqE l[j] m[j] = true)) (fun i _ => l.length - (intOf i).toNat)
    case atStart => exact ⟨0, Nat.zero_le _, rfl, Below.refl _ _, fun j _ _ hj => absurd hj (Nat.not_lt_zero j)⟩
    case round =>
      obtain ⟨k, hk, rfl, HD, HT⟩ := hrel
      have R1 := keepC HD.out B1 hb1
      have R2 := keepC HD.out B2 hb2
      by_cases hlt : k < l.length
      · have hlt2 : k < m.length := by have := HLEN.out; omega
        obtain ⟨b1, o1, rfl, hbb1, L1⟩ := HL1.out (ne_of_lt hlt)
        obtain ⟨b2, o2, rfl, hbb2, L2⟩ := HL2.out (ne_of_lt hlt2)
        obtain ⟨s1, e1, e2, e3, r1⟩ := (L1.on hbb1 HD.out) k hlt
        obtain ⟨s2, f1, f2, f3, r2⟩ := (L2.on hbb2 HD.out) k hlt2
        have i1 : (k : Int) < (l.length : Int) := by omega
        have i2 : (0 : Int) ≤ (k : Int) := by omega
        have HNx : Hid (eqE l[k] m[k] = false → F = false) := fun h => (HF.out).symm.trans (same_notS hlt hlt2 h)
        have HYx : Hid (eqE l[k] m[k] = true → ∀ j (h1 : j < l.length) (h2 : j < m.length), j < k + 1 → eqE l[j] m[j] = true) := fun h j g1 g2 g3 => by
          by_cases hj : j < k
          · exact HT.out j g1 g2 hj
          · have : j = k := by omega
            subst this; exact h
        have hlv := HV.out k hlt
        generalize l[k] = x at *
        generalize m[k] = y at *
        obtain ⟨p0, p1, p2⟩ := x
        obtain ⟨q0, q1, q2⟩ := y
        simp only at e1 e2 e3 f1 f2 f3 r1 r2 hlv
        have HR1 := Lib.hid r1
        have HR2 := Lib.hid r2
        obtain ⟨sa1, sc1, rfl, -, -⟩ := r1
        obtain ⟨sa2, sc2, rfl, -, -⟩ := r2
        clear L1 L2 HL1 HL2 HT
        have HN : Hid (eqE ⟨p0, p1, p2⟩ ⟨q0, q1, q2⟩ = false → F = false) := HNx
        have HY : Hid (eqE ⟨p0, p1, p2⟩ ⟨q0, q1, q2⟩ = true → ∀ j (h1 : j < l.length) (h2 : j < m.length), j < k + 1 → eqE l[j] m[j] = true) := HYx
        clear HNx HYx
        have HC := Lib.hid (fun W (d : Below wr.heap.size wr W) => refSameV_any _ _ p2 q2 W (HR1.out.on d) (HR2.out.on d) hlv)
        have hq : TwoE x1 x2 (.slice (some ⟨b1, o1, none⟩) l.length c1) (.slice (some ⟨b2, o2, none⟩) l.length c2) b1 (o1 + k * 3) b2 (o2 + k * 3) p0 p1 (.slice sa1 p2.length sc1) q0 q1 (.slice sa2 q2.length sc2) wr.drew := ⟨R1, R2, e1, e2, e3, f1, f2, f3⟩
        have HQ := Lib.hid hq
        have HA := Lib.hid (fun (W : World) (o : Obj) (h : TwoE x1 x2 (.slice (some ⟨b1, o1, none⟩) l.length c1) (.slice (some ⟨b2, o2, none⟩) l.length c2) b1 (o1 + k * 3) b2 (o2 + k * 3) p0 p1 (.slice sa1 p2.length sc1) q0 q1 (.slice sa2 q2.length sc2) W) => h.alloc o)
        have DA := Lib.hid (aBelow2 wr.drew (.cells #[.int .i64 p0, .string p1, .slice sa1 p2.length sc1] 59) (.cells #[.int .i64 q0, .string q1, .slice sa2 q2.length sc2] 59))
        have DB := Lib.hid (aBelow2 wr.drew (.cells #[.int .i64 q0, .string q1, .slice sa2 q2.length sc2] 59) (.cells #[.int .i64 p0, .string p1, .slice sa1 p2.length sc1] 59))
        obtain ⟨S, HS⟩ : ∃ S, Hid (sameV p2 q2 = S) := ⟨_, rfl⟩
        rw [HS.out] at HC
        have hwz := HD.out.size
        unfold TwoE at hq HA
        go_wp2_with fail
        clear B1 B2 R1 R2 e1 e2 e3 f1 f2 f3
        go_region_held3 (fun w' => w'.cell? ⟨x1, 0, none⟩ = some (.slice (some ⟨b1, o1, none⟩) l.length c1) ∧ w'.cell? ⟨x2, 0, none⟩ = some (.slice (some ⟨b2, o2, none⟩) l.length c2) ∧ w'.cell? ⟨b1, o1 + k * 3, none⟩ = some (.int .i64 p0) ∧ w'.cell? ⟨b1, o1 + k * 3 + 1, none⟩ = some (.string p1) ∧ w'.cell? ⟨b1, o1 + k * 3 + 2, none⟩ = some (.slice sa1 p2.length sc1) ∧ w'.cell? ⟨b2, o2 + k * 3, none⟩ = some (.int .i64 q0) ∧ w'.cell? ⟨b2, o2 + k * 3 + 1, none⟩ = some (.string q1) ∧ w'.cell? ⟨b2, o2 + k * 3 + 2, none⟩ = some (.slice sa2 q2.length sc2)) (first | exact hq | exact HA.out _ _ hq | exact HA.out _ _ (HA.out _ _ hq)) (fail)
        all_goals (rename_i hHeld; clear hHeld hq HA HQ)
        · have dX : Below wr.heap.size wr (((wr.alloc (.cells #[.int .i64 p0, .string p1, .slice sa1 p2.length sc1] 59)).alloc (.cells #[.int .i64 q0, .string q1, .slice sa2 q2.length sc2] 59)).drew) := ⟨DA.out.os, DA.out.tape, DA.out.output, DA.out.size, DA.out.block⟩
          have DX := Lib.hid dX
          have DW := Lib.hid ((HD.out).trans (dX.mono hwz))
          have DD := Lib.hid ((d0.out).trans (DW.out.mono (Nat.le_of_lt hb1)))
          have hwx := Nat.le_trans hwz dX.size
          clear DA DB dX
          by_cases c1 : p0 = q0
          rotate_left
          · have t1 : (p0 == q0) = false := by simp [c1]
            have HV := Lib.hid (HN.out ((eqE_parts false _ _ t1 rfl HS.out).trans rfl))
            clear HN HY HC HS
            go_wp2_with fail
            have e := HX1.out
            subst e
            go_ret
            exact ⟨by first | (rw [HV.out]; done) | (rw [HV.out]; rfl), DD.out⟩
          · subst c1
            have t1 : (p0 == p0) = true := by simp
            cases t2 : (p1.toList == q1.toList)
            · have HV := Lib.hid (HN.out ((eqE_parts true false _ t1 t2 HS.out).trans rfl))
              clear HN HY HC HS
              go_wp2_with fail
              have e := HX1.out
              subst e
              go_ret
              exact ⟨by first | (rw [HV.out]; done) | (rw [HV.out]; rfl), DD.out⟩
            · have HE := Lib.hid (eqE_parts true true _ t1 t2 HS.out)
              go_wp2_with fail
              refine (HC.out _ DX.out).mono ?_
              rintro e w5 ⟨rfl, n5⟩
              cases S
              · have HV := Lib.hid (HN.out (HE.out.trans rfl))
                clear HN HY HC HS HE
                go_wp2_with fail
                have e := HX1.out
                subst e
                go_ret
                exact ⟨by first | (rw [HV.out]; done) | (rw [HV.out]; rfl), DD.out.trans (n5.mono (Nat.le_trans (Nat.le_of_lt hb1) hwx))⟩
              · have HV := Lib.hid (HY.out (HE.out.trans rfl))
                clear HN HY HC HS HE
                go_wp2_with fail
                exact ⟨⟨k + 1, by omega, by go_num, DW.out.trans (n5.mono hwx), HV⟩, by simp [intOf]; omega⟩
        · have dX : Below wr.heap.size wr (((wr.alloc (.cells #[.int .i64 q0, .string q1, .slice sa2 q2.length sc2] 59)).alloc (.cells #[.int .i64 p0, .string p1, .slice sa1 p2.length sc1] 59)).drew) := ⟨DB.out.os, DB.out.tape, DB.out.output, DB.out.size, DB.out.block⟩
          have DX := Lib.hid dX
          have DW := Lib.hid ((HD.out).trans (dX.mono hwz))
          have DD := Lib.hid ((d0.out).trans (DW.out.mono (Nat.le_of_lt hb1)))
          have hwx := Nat.le_trans hwz dX.size
          clear DA DB dX
          by_cases c1 : p0 = q0
          rotate_left
          · have t1 : (p0 == q0) = false := by simp [c1]
            have HV := Lib.hid (HN.out ((eqE_parts false _ _ t1 rfl HS.out).trans rfl))
            clear HN HY HC HS
            go_wp2_with fail
            have e := HX1.out
            subst e
            go_ret
            exact ⟨by first | (rw [HV.out]; done) | (rw [HV.out]; rfl), DD.out⟩
          · subst c1
            have t1 : (p0 == p0) = true := by simp
            cases t2 : (p1.toList == q1.toList)
            · have HV := Lib.hid (HN.out ((eqE_parts true false _ t1 t2 HS.out).trans rfl))
              clear HN HY HC HS
              go_wp2_with fail
              have e := HX1.out
              subst e
              go_ret
              exact ⟨by first | (rw [HV.out]; done) | (rw [HV.out]; rfl), DD.out⟩
            · have HE := Lib.hid (eqE_parts true true _ t1 t2 HS.out)
              go_wp2_with fail
              refine (HC.out _ DX.out).mono ?_
              rintro e w5 ⟨rfl, n5⟩
              cases S
              · have HV := Lib.hid (HN.out (HE.out.trans rfl))
                clear HN HY HC HS HE
                go_wp2_with fail
                have e := HX1.out
                subst e
                go_ret
                exact ⟨by first | (rw [HV.out]; done) | (rw [HV.out]; rfl), DD.out.trans (n5.mono (Nat.le_trans (Nat.le_of_lt hb1) hwx))⟩
              · have HV := Lib.hid (HY.out (HE.out.trans rfl))
                clear HN HY HC HS HE
                go_wp2_with fail
                exact ⟨⟨k + 1, by omega, by go_num, DW.out.trans (n5.mono hwx), HV⟩, by simp [intOf]; omega⟩
      · have HM := Lib.hid ((HF.out).symm.trans (same_allS HLEN.out (fun j g1 g2 => HT.out j g1 g2 (by omega))))
        have i1 : ¬ (k : Int) < (l.length : Int) := by omega
        have DD := Lib.hid ((d0.out).trans (HD.out.mono (Nat.le_of_lt hb1)))
        go_wp2_with fail
        have e := HX1.out
        subst e
        go_ret
        exact ⟨by first | (rw [HM.out]; done) | (rw [HM.out]; rfl), DD.out⟩
  · rw [same_lenS hlen]
    have hlz : ¬ (l.length : Int) = (m.length : Int) := by omega
    have hlz2 : ((l.length : Int) == (m.length : Int)) = false := by simp; omega
    clear hl1 hl2 h1 h2
    go_enter Try.func13, Try.ntmps13
    go_wp2_with fail
    go_ret
    exact ⟨rfl, d0.out⟩
end Go.Proofs.Ythiofbohllmfbaa.Sh
