/- The stable sort's walks: two sorted blocks merged in place, at elements of k cells. -/
import Derived.Test.YtidkpalckafgkaaGreatDoorS3
namespace Go.Proofs.YtidkpalckafgkaaGreatDoor
open Go Go.Shelf Go.RowKit Go.Lib Go.Sort
variable {P : Program} {α : Type} [Inhabited α]

section
variable {lt ltR : α → α → Bool} {PL PR : α → Prop}
theorem left_false (hO : SWO ltR) (ag : ∀ l r, PL l → PR r → lt r l = ltR r l) {d : Array α} {a b h : Nat} (T : Stb.Two ltR PL PR d a (a + 1) b) (h1 : a + 1 ≤ h) (h2 : h < b) (hv : lt d[h]! d[a]! = false) : ∀ y, h ≤ y → y < b → lt d[y]! d[a]! = false := fun y h3 h4 => by
  have e : ∀ y, a + 1 ≤ y → y < b → lt d[y]! d[a]! = ltR d[y]! d[a]! := fun y h h' => ag _ _ (T.pl a (Nat.le_refl _) (by omega)) (T.pr y h h')
  rw [e _ h1 h2] at hv
  rw [e _ (by omega) h4]
  exact hO.ntrans _ _ _ (Stb.sorted_le hO T.sr h y h1 h3 h4) hv
theorem left_true (hO : SWO ltR) (ag : ∀ l r, PL l → PR r → lt r l = ltR r l) {d : Array α} {a b h : Nat} (T : Stb.Two ltR PL PR d a (a + 1) b) (h2 : h < b) (hv : lt d[h]! d[a]! = true) : ∀ y, a + 1 ≤ y → y ≤ h → lt d[y]! d[a]! = true := fun y h3 h4 => by
  cases hc : lt d[y]! d[a]!
  · rw [left_false hO ag T h3 (by omega) hc h h4 h2] at hv; cases hv
  · rfl
theorem right_false (hO : SWO ltR) (ag : ∀ l r, PL l → PR r → lt r l = ltR r l) {d : Array α} {a m h : Nat} (T : Stb.Two ltR PL PR d a m (m + 1)) (h1 : a ≤ h) (h2 : h < m) (hv : lt d[m]! d[h]! = false) : ∀ y, a ≤ y → y ≤ h → lt d[m]! d[y]! = false := fun y h3 h4 => by
  have e : ∀ y, a ≤ y → y < m → lt d[m]! d[y]! = ltR d[m]! d[y]! := fun y h h' => ag _ _ (T.pl y h h') (T.pr m (Nat.le_refl _) (by omega))
  rw [e _ h1 h2] at hv
  rw [e _ h3 (by omega)]
  exact hO.ntrans _ _ _ hv (Stb.sorted_le hO T.sl y h h3 h4 h2)
theorem right_true (hO : SWO ltR) (ag : ∀ l r, PL l → PR r → lt r l = ltR r l) {d : Array α} {a m h : Nat} (T : Stb.Two ltR PL PR d a m (m + 1)) (h1 : a ≤ h) (hv : lt d[m]! d[h]! = true) : ∀ y, h ≤ y → y < m → lt d[m]! d[y]! = true := fun y h3 h4 => by
  cases hc : lt d[m]! d[y]!
  · rw [right_false hO ag T (by omega) h4 hc h h1 h3] at hv; cases hv
  · rfl
theorem cut_false (hO : SWO ltR) (ag : ∀ l r, PL l → PR r → lt r l = ltR r l) {d : Array α} {a m b q s0 r0 c : Nat} (T : Stb.Two ltR PL PR d a m b) (hq : ∀ c, s0 ≤ c → c < r0 → a ≤ c ∧ c < m ∧ m ≤ q - 1 - c ∧ q - 1 - c < b) (h1 : s0 ≤ c) (h2 : c < r0) (hv : lt d[q - 1 - c]! d[c]! = false) : ∀ y, s0 ≤ y → y ≤ c → lt d[q - 1 - y]! d[y]! = false := fun y h3 h4 => by
  obtain ⟨u1, u2, u3, u4⟩ := hq c h1 h2
  obtain ⟨v1, v2, v3, v4⟩ := hq y h3 (by omega)
  rw [ag _ _ (T.pl c u1 u2) (T.pr _ u3 u4)] at hv
  rw [ag _ _ (T.pl y v1 v2) (T.pr _ v3 v4)]
  exact hO.ntrans _ _ _ (hO.ntrans _ _ _ (Stb.sorted_le hO T.sr (q - 1 - c) (q - 1 - y) u3 (by omega) v4) hv) (Stb.sorted_le hO T.sl y c v1 h4 u2)
theorem cut_true (hO : SWO ltR) (ag : ∀ l r, PL l → PR r → lt r l = ltR r l) {d : Array α} {a m b q s0 r0 c : Nat} (T : Stb.Two ltR PL PR d a m b) (hq : ∀ c, s0 ≤ c → c < r0 → a ≤ c ∧ c < m ∧ m ≤ q - 1 - c ∧ q - 1 - c < b) (h1 : s0 ≤ c) (hv : lt d[q - 1 - c]! d[c]! = true) : ∀ y, c ≤ y → y < r0 → lt d[q - 1 - y]! d[y]! = true := fun y h3 h4 => by
  cases hc : lt d[q - 1 - y]! d[y]!
  · rw [cut_false hO ag T hq (by omega) h4 hc c h1 h3] at hv; cases hv
  · rfl
theorem two_same {d r : Array α} {a m b : Nat} (T : Stb.Two ltR PL PR d a m b) (h : ∀ x, a ≤ x → x < b → r[x]! = d[x]!) (ham : a ≤ m) (hmb : m ≤ b) : Stb.Two ltR PL PR r a m b :=
  ⟨fun p q h1 h2 h3 => by rw [h p h1 (by omega), h q (by omega) (by omega)]; exact T.sl p q h1 h2 h3, fun p q h1 h2 h3 => by rw [h p (by omega) (by omega), h q (by omega) h3]; exact T.sr p q h1 h2 h3,
   fun x h1 h2 => by rw [h x h1 (by omega)]; exact T.pl x h1 h2, fun x h1 h2 => by rw [h x (by omega) h2]; exact T.pr x h1 h2⟩
end

set_option maxHeartbeats 4000000 in
set_option maxRecDepth 1000000 in
theorem sym_left {k : Nat} (L : PF P k) (enc : α → List Value) (cf : α → α → Int) (ltR : α → α → Bool) (PL PR : α → Prop) (hO : SWO ltR) (ag : ∀ l r, PL l → PR r → ltOf cf r l = ltR r l) (g : Nat) (cb : Array Value) (blk off cap a b : Nat) (d0 d : Array α) (w0 w : World)
    (eg : ∀ args w, (callFunc g args).run P w = .ok (.enter g args) w) (hcmp : CmpLays P g cb enc k cf blk off d.size w0)
    (R : RowK enc k w0 blk off d0) (hs : d0.size = d.size) (S : SWK enc k w0 blk off d w) (T : Stb.Two ltR PL PR d a (a + 1) b) (hmb : a + 1 < b) (hb : b ≤ d.size) (hsz : d.size < 4611686018427387904) :
    Calls P 202 #[.slice (some ⟨blk, off, none⟩) d.size cap, .int .i64 a, .int .i64 ((a + 1 : Nat) : Int), .int .i64 b, .func (.func g) #[] cb] w fun e w' => e = .returned (.tuple #[]) ∧ ∃ r, SWK enc k w0 blk off r w' ∧ Stb.Done ltR d a b r ∧ PIn a b d r := by
  have mixed := L.mixed; have t0 := L.t0; have a0 := L.a0; have z0 := L.z0; have v0 := L.v0; have t3 := L.t3; have a3 := L.a3; have z3 := L.z3; have v3 := L.v3; have t4 := L.t4; have a4 := L.a4; have z4 := L.z4; have v4 := L.v4; have t40 := L.t40; have a40 := L.a40; have z40 := L.z40; have v40 := L.v40; have t151 := L.t151; have a151 := L.a151; have z151 := L.z151; have v151 := L.v151; have aE := L.aE; have zE := L.zE; have t126 := L.t126; have a126 := L.a126; have z126 := L.z126; have v126 := L.v126
  have FG := L.f202
  have HC : Aside _ := hcmp
  have S0 : Aside (SWK enc k w0 blk off d w) := S
  obtain ⟨m, hm⟩ : ∃ m, m = a + 1 := ⟨_, rfl⟩
  have hmz : (m : Int) - (a : Int) = 1 := by omega
  have rm : IntKind.i64.wrap ((m : Int) - (a : Int)) = 1 := by rw [IntKind.wrap_i64]; omega
  have HM : Hid (m = a + 1) := hm
  rw [← hm]
  have HT : Hid (Stb.Two ltR PL PR d a (a + 1) b) := T
  have ham : a < m := by omega
  have hmb' : m < b := by omega
  clear hcmp S L T hm
  go_enter FG, Tryz.ntmps202
  go_wp2
  go_loopg [10, 11] (b - a) (fun kx s10 s11 wr => ∃ (i j : Nat), s10 = .int .i64 i ∧ s11 = .int .i64 j ∧ m ≤ i ∧ i ≤ j ∧ j ≤ b ∧ j - i ≤ kx ∧ Aside (SWK enc k w0 blk off d wr) ∧ Hid (∀ y, m ≤ y → y < i → ltOf cf d[y]! d[a]! = true) ∧ Hid (∀ y, j ≤ y → y < b → ltOf cf d[y]! d[a]! = false))
  case atStart => exact ⟨m, b, rfl, rfl, Nat.le_refl _, by omega, Nat.le_refl _, by omega, S0, fun y h1 h2 => by omega, fun y h1 h2 => by omega⟩
  case round =>
    clear S0
    obtain ⟨i, j, rfl, rfl, hmi, hij, hjb, hkx, S1, HL, HR⟩ := hrel
    by_cases hlt : i < j
    · have hltz : (i : Int) < (j : Int) := by omega
      obtain ⟨h, hh⟩ : ∃ h : Nat, ((i : Int) + (j : Int)) / 2 = (h : Int) := ⟨(i + j) / 2, by omega⟩
      go_wp2_with fail
      try rw [hh]
      have hhi : i ≤ h := by omega
      have hhj : h < j := by omega
      clear hh

      have e1a : ((h : Int)).toNat = h := by omega
      have p1a : (0 : Int) ≤ (h : Int) := by omega
      have b1a : (h : Int) < (d.size : Int) := by omega
      have r1a : IntKind.i64.wrap ((h : Int)) = (h : Int) := by rw [IntKind.wrap_i64]; omega
      have e1b : ((a : Int)).toNat = a := by omega
      have p1b : (0 : Int) ≤ (a : Int) := by omega
      have b1b : (a : Int) < (d.size : Int) := by omega
      have r1b : IntKind.i64.wrap ((a : Int)) = (a : Int) := by rw [IntKind.wrap_i64]; omega
      obtain ⟨x1, hx1⟩ : ∃ x, x = d[h]! := ⟨_, rfl⟩
      obtain ⟨y1, hy1⟩ : ∃ x, x = d[a]! := ⟨_, rfl⟩
      have l1a := S1.out.ld R (by omega) P (h) (by omega)
      have l1b := S1.out.ld R (by omega) P (a) (by omega)
      rw [← hx1] at l1a
      rw [← hy1] at l1b
      have hc1 := S1.out.cmp HC.out (by omega) x1 y1
      have E1 : Hid (ltOf cf d[h]! d[a]! = decide (cf x1 y1 < 0)) := by rw [hx1, hy1]; exact rfl
      clear hx1 hy1
      by_cases hv1 : cf x1 y1 < 0
      · have hd1 : decide (cf x1 y1 < 0) = true := decide_eq_true hv1
        have V1 : Hid (ltOf cf d[h]! d[a]! = true) := by rw [E1.out]; exact hd1
        go_wp2_with fail
        go_quiet_grown (first | (go_at_fn g; refine Calls.grown_of (hc1 _ _)))
        have S2 : Aside (SWK enc k w0 blk off d (grow (wr.drewN nq) osq)) := S1.out.grown nq osq
        clear l1a l1b hc1 S1
        generalize grow (wr.drewN nq) osq = w2 at S2 ⊢
        clear nq osq
        go_wp2
        go_roundg (j - (h + 1))
        case measure => omega
        case rel => exact ⟨h + 1, j, by go_num, rfl, by omega, by omega, hjb, Nat.le_refl _, S2, fun y h1 h2 => left_true hO ag HT.out (by omega) V1.out y (by rw [← HM.out]; exact h1) (by omega), HR⟩
      · have hd1 : decide (cf x1 y1 < 0) = false := decide_eq_false hv1
        have V1 : Hid (ltOf cf d[h]! d[a]! = false) := by rw [E1.out]; exact hd1
        go_wp2_with fail
        go_quiet_grown (first | (go_at_fn g; refine Calls.grown_of (hc1 _ _)))
        have S2 : Aside (SWK enc k w0 blk off d (grow (wr.drewN nq) osq)) := S1.out.grown nq osq
        clear l1a l1b hc1 S1
        generalize grow (wr.drewN nq) osq = w2 at S2 ⊢
        clear nq osq
        go_wp2
        go_roundg (h - i)
        case measure => omega
        case rel => exact ⟨i, h, rfl, rfl, hmi, hhi, by omega, Nat.le_refl _, S2, HL, fun y h1 h2 => left_false hO ag HT.out (by rw [← HM.out]; omega) (by omega) V1.out y h1 h2⟩

    · have hltz : ¬ (i : Int) < (j : Int) := by omega
      have e : i = j := by omega
      subst e
      clear hij hkx hlt
      have ri : IntKind.i64.wrap ((i : Int) - 1) = (i : Int) - 1 := by rw [IntKind.wrap_i64]; omega
      go_wp2
      go_loopg [13] (i - a) (fun kx s13 wr => ∃ (q : Nat) (dk : Array α), s13 = .int .i64 q ∧ a ≤ q ∧ q ≤ i - 1 ∧ i - 1 - q ≤ kx ∧ dk.size = d.size ∧ Aside (SWK enc k w0 blk off dk wr) ∧ Hid (Stb.Via d (fun x => if a ≤ x ∧ x < q then x + 1 else if x = q then a else x) dk) ∧ Hid (PIn a b d dk))
      case atStart =>
        refine ⟨a, d, rfl, Nat.le_refl _, by omega, by omega, rfl, S1, ((Stb.via_refl d).congr (fun x _ => ?_)), PIn.refl _ _ _⟩
        rw [if_neg (by omega)]
        split <;> omega
      case round =>
        clear S1
        obtain ⟨q, dk, rfl, haq, hqi, hkq, hds, S1, HV, HP⟩ := hrel
        by_cases hlt : q < i - 1
        · have hltz : (q : Int) < (i : Int) - 1 := by omega
          go_wp2_with fail
          have e2a : ((q : Int)).toNat = q := by omega
          have p2a : (0 : Int) ≤ (q : Int) := by omega
          have b2a : (q : Int) < (d.size : Int) := by omega
          have r2a : IntKind.i64.wrap ((q : Int)) = (q : Int) := by rw [IntKind.wrap_i64]; omega
          have e2b : ((q : Int) + 1).toNat = q + 1 := by omega
          have p2b : (0 : Int) ≤ (q : Int) + 1 := by omega
          have b2b : (q : Int) + 1 < (d.size : Int) := by omega
          have r2b : IntKind.i64.wrap ((q : Int) + 1) = (q : Int) + 1 := by rw [IntKind.wrap_i64]; omega
          have S2 : Aside (SWK enc k w0 blk off (swp dk (q) (q + 1)) ((wr.drew.setCells blk (off + (q) * k) (enc dk[q + 1]!)).setCells blk (off + (q + 1) * k) (enc dk[q]!))) := S1.out.swapped R (q) (q + 1) (by omega) (by omega)
          have l2a := S1.out.ld1 R (by omega) P (q) (by omega)
          have l2b := S1.out.ld1 R (by omega) P (q + 1) (by omega)
          have s2a := S1.out.st1 R (by omega) P (q) (by omega) dk[q + 1]!
          have s2b := S1.out.st2 R (by omega) P (q) (q + 1) (by omega) (by omega) dk[q + 1]! dk[q]!
          have n2a : (enc dk[q]!).length = k := R.hk _
          have n2b : (enc dk[q + 1]!).length = k := R.hk _
          have HV2 : Hid (Stb.Via d (fun x => if a ≤ x ∧ x < q + 1 then x + 1 else if x = q + 1 then a else x) (swp dk q (q + 1))) := by
            refine ((HV.out).trans (Stb.via_swp dk q (q + 1) (by omega) (by omega)) (fun x hx => ?_)).congr (fun x hx => ?_)
            · split
              · omega
              · split <;> omega
            · repeat' split
              all_goals omega
          have HP2 : Hid (PIn a b d (swp dk q (q + 1))) := HP.out.swp q (q + 1) (by omega) (by omega) (by omega) (by omega) hb
          generalize enc dk[q]! = cI2 at S2 l2a s2b n2a
          generalize enc dk[q + 1]! = cJ2 at S2 l2b s2a s2b n2b
          clear S1 HV HP
          go_wp2_with fail
          go_big_region_o
          clear l2a l2b s2a s2b
          generalize (wr.drew.setCells blk (off + (q) * k) cJ2).setCells blk (off + (q + 1) * k) cI2 = w2 at S2 ⊢
          go_wp2
          go_roundg (i - 1 - (q + 1))
          case measure => omega
          case rel => exact ⟨q + 1, swp dk q (q + 1), by go_num, by omega, by omega, Nat.le_refl _, by rw [size_swp]; exact hds, S2, HV2, HP2⟩

        · have hltz : ¬ (q : Int) < (i : Int) - 1 := by omega
          have e : q = i - 1 := by omega
          subst e
          go_wp2
          (try simp only [Exit.inBlock, Exit.then]); refine bodyPost_ret (results_none rfl _ _ _) rfl ?_
          have hHM := HM.out
          refine ⟨rfl, dk, S1.out, ⟨HP.out a b (Nat.le_refl _) (Nat.le_refl _) hb, Stb.one_left hO ag hb HT.out (i := i) (by omega) hjb (fun y h1 h2 => HL.out y (by omega) h2) HR.out HV.out⟩, HP.out⟩

set_option maxHeartbeats 4000000 in
set_option maxRecDepth 1000000 in
theorem sym_right {k : Nat} (L : PF P k) (enc : α → List Value) (cf : α → α → Int) (ltR : α → α → Bool) (PL PR : α → Prop) (hO : SWO ltR) (ag : ∀ l r, PL l → PR r → ltOf cf r l = ltR r l) (g : Nat) (cb : Array Value) (blk off cap a m : Nat) (d0 d : Array α) (w0 w : World)
    (eg : ∀ args w, (callFunc g args).run P w = .ok (.enter g args) w) (hcmp : CmpLays P g cb enc k cf blk off d.size w0)
    (R : RowK enc k w0 blk off d0) (hs : d0.size = d.size) (S : SWK enc k w0 blk off d w) (T : Stb.Two ltR PL PR d a m (m + 1)) (ham : a + 1 < m) (hb : m + 1 ≤ d.size) (hsz : d.size < 4611686018427387904) :
    Calls P 202 #[.slice (some ⟨blk, off, none⟩) d.size cap, .int .i64 a, .int .i64 m, .int .i64 ((m + 1 : Nat) : Int), .func (.func g) #[] cb] w fun e w' => e = .returned (.tuple #[]) ∧ ∃ r, SWK enc k w0 blk off r w' ∧ Stb.Done ltR d a (m + 1) r ∧ PIn a (m + 1) d r := by
  have mixed := L.mixed; have t0 := L.t0; have a0 := L.a0; have z0 := L.z0; have v0 := L.v0; have t3 := L.t3; have a3 := L.a3; have z3 := L.z3; have v3 := L.v3; have t4 := L.t4; have a4 := L.a4; have z4 := L.z4; have v4 := L.v4; have t40 := L.t40; have a40 := L.a40; have z40 := L.z40; have v40 := L.v40; have t151 := L.t151; have a151 := L.a151; have z151 := L.z151; have v151 := L.v151; have aE := L.aE; have zE := L.zE; have t126 := L.t126; have a126 := L.a126; have z126 := L.z126; have v126 := L.v126
  have FG := L.f202
  have HC : Aside _ := hcmp
  have S0 : Aside (SWK enc k w0 blk off d w) := S
  obtain ⟨b, hbm⟩ : ∃ b, b = m + 1 := ⟨_, rfl⟩
  have hmz : (b : Int) - (m : Int) = 1 := by omega
  have rm : IntKind.i64.wrap ((b : Int) - (m : Int)) = 1 := by rw [IntKind.wrap_i64]; omega
  have rm2 : IntKind.i64.wrap ((m : Int) - (a : Int)) = (m : Int) - (a : Int) := by rw [IntKind.wrap_i64]; omega
  have hnz : ¬ (m : Int) - (a : Int) = 1 := by omega
  have hnb : ((m : Int) - (a : Int) == 1) = false := beq_eq_false_iff_ne.2 hnz
  have HM : Hid (b = m + 1) := hbm
  rw [← hbm] at hb ⊢
  have HT : Hid (Stb.Two ltR PL PR d a m (m + 1)) := T
  have hmb' : m < b := by omega
  clear hcmp S L T hbm
  go_enter FG, Tryz.ntmps202
  go_wp2
  go_loopg [14, 15] (b - a) (fun kx s14 s15 wr => ∃ (i j : Nat), s14 = .int .i64 i ∧ s15 = .int .i64 j ∧ a ≤ i ∧ i ≤ j ∧ j ≤ m ∧ j - i ≤ kx ∧ Aside (SWK enc k w0 blk off d wr) ∧ Hid (∀ y, a ≤ y → y < i → ltOf cf d[m]! d[y]! = false) ∧ Hid (∀ y, j ≤ y → y < m → ltOf cf d[m]! d[y]! = true))
  case atStart => exact ⟨a, m, rfl, rfl, Nat.le_refl _, by omega, Nat.le_refl _, by omega, S0, fun y h1 h2 => by omega, fun y h1 h2 => by omega⟩
  case round =>
    clear S0
    obtain ⟨i, j, rfl, rfl, hmi, hij, hjb, hkx, S1, HL, HR⟩ := hrel
    by_cases hlt : i < j
    · have hltz : (i : Int) < (j : Int) := by omega
      obtain ⟨h, hh⟩ : ∃ h : Nat, ((i : Int) + (j : Int)) / 2 = (h : Int) := ⟨(i + j) / 2, by omega⟩
      go_wp2_with fail
      try rw [hh]
      have hhi : i ≤ h := by omega
      have hhj : h < j := by omega
      clear hh

      have e1a : ((m : Int)).toNat = m := by omega
      have p1a : (0 : Int) ≤ (m : Int) := by omega
      have b1a : (m : Int) < (d.size : Int) := by omega
      have r1a : IntKind.i64.wrap ((m : Int)) = (m : Int) := by rw [IntKind.wrap_i64]; omega
      have e1b : ((h : Int)).toNat = h := by omega
      have p1b : (0 : Int) ≤ (h : Int) := by omega
      have b1b : (h : Int) < (d.size : Int) := by omega
      have r1b : IntKind.i64.wrap ((h : Int)) = (h : Int) := by rw [IntKind.wrap_i64]; omega
      obtain ⟨x1, hx1⟩ : ∃ x, x = d[m]! := ⟨_, rfl⟩
      obtain ⟨y1, hy1⟩ : ∃ x, x = d[h]! := ⟨_, rfl⟩
      have l1a := S1.out.ld R (by omega) P (m) (by omega)
      have l1b := S1.out.ld R (by omega) P (h) (by omega)
      rw [← hx1] at l1a
      rw [← hy1] at l1b
      have hc1 := S1.out.cmp HC.out (by omega) x1 y1
      have E1 : Hid (ltOf cf d[m]! d[h]! = decide (cf x1 y1 < 0)) := by rw [hx1, hy1]; exact rfl
      clear hx1 hy1
      by_cases hv1 : cf x1 y1 < 0
      · have hd1 : decide (cf x1 y1 < 0) = true := decide_eq_true hv1
        have V1 : Hid (ltOf cf d[m]! d[h]! = true) := by rw [E1.out]; exact hd1
        go_wp2_with fail
        go_quiet_grown (first | (go_at_fn g; refine Calls.grown_of (hc1 _ _)))
        have S2 : Aside (SWK enc k w0 blk off d (grow (wr.drewN nq) osq)) := S1.out.grown nq osq
        clear l1a l1b hc1 S1
        generalize grow (wr.drewN nq) osq = w2 at S2 ⊢
        clear nq osq
        go_wp2
        go_roundg (h - i)
        case measure => omega
        case rel => exact ⟨i, h, rfl, rfl, hmi, hhi, by omega, Nat.le_refl _, S2, HL, fun y h1 h2 => right_true hO ag HT.out (by omega) V1.out y h1 h2⟩
      · have hd1 : decide (cf x1 y1 < 0) = false := decide_eq_false hv1
        have V1 : Hid (ltOf cf d[m]! d[h]! = false) := by rw [E1.out]; exact hd1
        go_wp2_with fail
        go_quiet_grown (first | (go_at_fn g; refine Calls.grown_of (hc1 _ _)))
        have S2 : Aside (SWK enc k w0 blk off d (grow (wr.drewN nq) osq)) := S1.out.grown nq osq
        clear l1a l1b hc1 S1
        generalize grow (wr.drewN nq) osq = w2 at S2 ⊢
        clear nq osq
        go_wp2
        go_roundg (j - (h + 1))
        case measure => omega
        case rel => exact ⟨h + 1, j, by go_num, rfl, by omega, by omega, hjb, Nat.le_refl _, S2, fun y h1 h2 => right_false hO ag HT.out (by omega) (by omega) V1.out y h1 (by omega), HR⟩

    · have hltz : ¬ (i : Int) < (j : Int) := by omega
      have e : i = j := by omega
      subst e
      clear hij hkx hlt
      go_wp2
      go_loopg [17] (b - i) (fun kx s17 wr => ∃ (q : Nat) (dk : Array α), s17 = .int .i64 q ∧ i ≤ q ∧ q ≤ m ∧ q - i ≤ kx ∧ dk.size = d.size ∧ Aside (SWK enc k w0 blk off dk wr) ∧ Hid (Stb.Via d (fun x => if q < x ∧ x ≤ m then x - 1 else if x = q then m else x) dk) ∧ Hid (PIn a b d dk))
      case atStart =>
        refine ⟨m, d, rfl, hjb, Nat.le_refl _, by omega, rfl, S1, ((Stb.via_refl d).congr (fun x _ => ?_)), PIn.refl _ _ _⟩
        rw [if_neg (by omega)]
        split <;> omega
      case round =>
        clear S1
        obtain ⟨q, dk, rfl, haq, hqi, hkq, hds, S1, HV, HP⟩ := hrel
        by_cases hlt : i < q
        · have hltz : (i : Int) < (q : Int) := by omega
          obtain ⟨q, rfl⟩ : ∃ q', q = q' + 1 := ⟨q - 1, by omega⟩
          have hltz' : (i : Int) < (q : Int) + 1 := by omega
          go_wp2_with fail
          have e2a : ((q : Int) + 1).toNat = q + 1 := by omega
          have p2a : (0 : Int) ≤ (q : Int) + 1 := by omega
          have b2a : (q : Int) + 1 < (d.size : Int) := by omega
          have r2a : IntKind.i64.wrap ((q : Int) + 1) = (q : Int) + 1 := by rw [IntKind.wrap_i64]; omega
          have e2b : ((q : Int)).toNat = q := by omega
          have p2b : (0 : Int) ≤ (q : Int) := by omega
          have b2b : (q : Int) < (d.size : Int) := by omega
          have r2b : IntKind.i64.wrap ((q : Int)) = (q : Int) := by rw [IntKind.wrap_i64]; omega
          have S2 : Aside (SWK enc k w0 blk off (swp dk (q + 1) (q)) ((wr.drew.setCells blk (off + (q + 1) * k) (enc dk[q]!)).setCells blk (off + (q) * k) (enc dk[q + 1]!))) := S1.out.swapped R (q + 1) (q) (by omega) (by omega)
          have l2a := S1.out.ld1 R (by omega) P (q + 1) (by omega)
          have l2b := S1.out.ld1 R (by omega) P (q) (by omega)
          have s2a := S1.out.st1 R (by omega) P (q + 1) (by omega) dk[q]!
          have s2b := S1.out.st2 R (by omega) P (q + 1) (q) (by omega) (by omega) dk[q]! dk[q + 1]!
          have n2a : (enc dk[q + 1]!).length = k := R.hk _
          have n2b : (enc dk[q]!).length = k := R.hk _
          have HV2 : Hid (Stb.Via d (fun x => if q < x ∧ x ≤ m then x - 1 else if x = q then m else x) (swp dk (q + 1) q)) := by
            refine ((HV.out).trans (Stb.via_swp dk (q + 1) q (by omega) (by omega)) (fun x hx => ?_)).congr (fun x hx => ?_)
            · split
              · omega
              · split <;> omega
            · repeat' split
              all_goals omega
          have HP2 : Hid (PIn a b d (swp dk (q + 1) q)) := HP.out.swp (q + 1) q (by omega) (by omega) (by omega) (by omega) hb
          generalize enc dk[q + 1]! = cI2 at S2 l2a s2b n2a
          generalize enc dk[q]! = cJ2 at S2 l2b s2a s2b n2b
          clear S1 HV HP
          go_wp2_with fail
          go_big_region_o
          clear l2a l2b s2a s2b
          generalize (wr.drew.setCells blk (off + (q + 1) * k) cJ2).setCells blk (off + (q) * k) cI2 = w2 at S2 ⊢
          go_wp2
          go_roundg (q - i)
          case measure => omega
          case rel => exact ⟨q, swp dk (q + 1) q, by first | rfl | go_num, by omega, by omega, Nat.le_refl _, by rw [size_swp]; exact hds, S2, HV2, HP2⟩

        · have hltz : ¬ (i : Int) < (q : Int) := by omega
          have e : q = i := by omega
          subst e
          go_wp2
          (try simp only [Exit.inBlock, Exit.then]); refine bodyPost_ret (results_none rfl _ _ _) rfl ?_
          have hHM := HM.out
          subst hHM
          refine ⟨rfl, dk, S1.out, ⟨HP.out a (m + 1) (Nat.le_refl _) (Nat.le_refl _) hb, Stb.one_right hO ag hb HT.out (i := q) hmi hjb HL.out HR.out HV.out⟩, HP.out⟩

end Go.Proofs.YtidkpalckafgkaaGreatDoor
