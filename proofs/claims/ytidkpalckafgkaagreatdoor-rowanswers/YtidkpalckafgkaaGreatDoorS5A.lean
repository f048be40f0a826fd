/- The stable sort's walks: two sorted blocks merged in place by halves, at elements of k cells. -/
import Derived.Test.YtidkpalckafgkaaGreatDoorS4
namespace Go.Proofs.YtidkpalckafgkaaGreatDoor
open Go Go.Shelf Go.RowKit Go.Lib Go.Sort
variable {P : Program} {α : Type} [Inhabited α]

set_option maxHeartbeats 8000000 in
set_option maxRecDepth 1000000 in
theorem sym_halfA {k : Nat} (L : PF P k) (enc : α → List Value) (cf : α → α → Int) (ltR : α → α → Bool) (PL PR : α → Prop) (hO : SWO ltR) (ag : ∀ l r, PL l → PR r → ltOf cf r l = ltR r l) (g : Nat) (cb : Array Value) (blk off cap a m b mid size G : Nat) (d0 d : Array α) (w0 w : World)
    (eg : ∀ args w, (callFunc g args).run P w = .ok (.enter g args) w) (hcmp : CmpLays P g cb enc k cf blk off size w0)
    (R : RowK enc k w0 blk off d0) (hs : d0.size = size) (hds : d.size = size) (S : SWK enc k w0 blk off d w) (T : Stb.Two ltR PL PR d a m b) (ham2 : a + 1 < m) (hmb2 : m + 1 < b) (hb : b ≤ size) (hsz : size < 4611686018427387904)
    (hmid1 : 2 * mid ≤ a + b) (hmid2 : a + b ≤ 2 * mid + 1) (hcase : mid < m) (hG : b - a ≤ G)
    (IH : ∀ (a m b : Nat) (d : Array α) (w : World), b - a < G → d.size = size → SWK enc k w0 blk off d w → Stb.Two ltR PL PR d a m b → a < m → m < b → b ≤ size → Calls P 202 #[.slice (some ⟨blk, off, none⟩) size cap, .int .i64 a, .int .i64 m, .int .i64 b, .func (.func g) #[] cb] w fun e w' => e = .returned (.tuple #[]) ∧ ∃ r, SWK enc k w0 blk off r w' ∧ Stb.Done ltR d a b r ∧ PIn a b d r) :
    Calls P 202 #[.slice (some ⟨blk, off, none⟩) size cap, .int .i64 a, .int .i64 m, .int .i64 b, .func (.func g) #[] cb] w fun e w' => e = .returned (.tuple #[]) ∧ ∃ r, SWK enc k w0 blk off r w' ∧ Stb.Done ltR d a b r ∧ PIn a b d r := by
  have mixed := L.mixed; have t0 := L.t0; have a0 := L.a0; have z0 := L.z0; have v0 := L.v0; have t3 := L.t3; have a3 := L.a3; have z3 := L.z3; have v3 := L.v3; have t4 := L.t4; have a4 := L.a4; have z4 := L.z4; have v4 := L.v4; have t40 := L.t40; have a40 := L.a40; have z40 := L.z40; have v40 := L.v40; have t151 := L.t151; have a151 := L.a151; have z151 := L.z151; have v151 := L.v151; have aE := L.aE; have zE := L.zE; have t126 := L.t126; have a126 := L.a126; have z126 := L.z126; have v126 := L.v126
  have FG := L.f202
  have e227 := L.e227
  have e202 := L.e202
  have HC : Aside _ := hcmp
  have S0 : Aside (SWK enc k w0 blk off d w) := S
  have LL : Hid (PF P k) := L
  have IH : Hid _ := IH
  have HT : Hid (Stb.Two ltR PL PR d a m b) := T
  have ham : a < m := by omega
  have hmb : m < b := by omega
  have hh : ((a : Int) + (b : Int)) / 2 = (mid : Int) := by omega
  have rm1 : IntKind.i64.wrap ((m : Int) - (a : Int)) = (m : Int) - (a : Int) := by rw [IntKind.wrap_i64]; omega
  have rm2 : IntKind.i64.wrap ((b : Int) - (m : Int)) = (b : Int) - (m : Int) := by rw [IntKind.wrap_i64]; omega
  have hnb1 : ((m : Int) - (a : Int) == 1) = false := beq_eq_false_iff_ne.2 (by omega)
  have hnb2 : ((b : Int) - (m : Int) == 1) = false := beq_eq_false_iff_ne.2 (by omega)
  have hcz : (mid : Int) < (m : Int) := by omega
  obtain ⟨p, hp⟩ : ∃ p : Nat, (mid : Int) + (m : Int) - 1 = (p : Int) := ⟨mid + m - 1, by omega⟩
  have hpn : p + 1 = mid + m := by omega
  obtain ⟨s0, hs0⟩ : ∃ s0, s0 = mid + m - b := ⟨_, rfl⟩
  obtain ⟨r0, hr0⟩ : ∃ r0, r0 = mid := ⟨_, rfl⟩
  have H0 : Hid ((mid < m ∧ s0 = mid + m - b ∧ r0 = mid) ∨ (m ≤ mid ∧ s0 = a ∧ r0 = m)) := by rw [hs0, hr0]; exact Or.inl ⟨hcase, rfl, rfl⟩
  have hq : ∀ c, s0 ≤ c → c < r0 → a ≤ c ∧ c < m ∧ m ≤ mid + m - 1 - c ∧ mid + m - 1 - c < b := fun c h1 h2 => by omega
  have Q0 : Hid (s0 = mid + m - b ∧ r0 = mid) := ⟨hs0, hr0⟩
  have h01 : s0 ≤ r0 := by omega
  have h02 : r0 ≤ m := by omega
  have h03 : r0 ≤ mid := by omega
  have h04 : a ≤ s0 := by omega
  have h05 : mid + m ≤ b + s0 := by omega
  clear hcmp S L T hs0 hr0
  go_enter FG, Tryz.ntmps202
  go_wp2
  go_loopg [20, 21] (b - a) (fun kx s20 s21 wr => ∃ (s r : Nat), s20 = .int .i64 s ∧ s21 = .int .i64 r ∧ s0 ≤ s ∧ s ≤ r ∧ r ≤ r0 ∧ r - s ≤ kx ∧ Aside (SWK enc k w0 blk off d wr) ∧ Hid (∀ y, s0 ≤ y → y < s → ltOf cf d[mid + m - 1 - y]! d[y]! = false) ∧ Hid (∀ y, r ≤ y → y < r0 → ltOf cf d[mid + m - 1 - y]! d[y]! = true))
  case atStart =>
    obtain ⟨q1, q2⟩ := Q0.out
    exact ⟨s0, r0, by first | rfl | (rw [q1]; done) | (rw [q1]; congr 1; omega), by first | rfl | (rw [q2]; done), Nat.le_refl _, h01, Nat.le_refl _, by omega, S0, fun y h1 h2 => by omega, fun y h1 h2 => by omega⟩
  case round =>
    clear S0 Q0
    obtain ⟨s, r, rfl, rfl, hls, hsr', hrr, hkx, S1, HL, HR⟩ := hrel
    have hsr : s ≤ r0 := by omega
    by_cases hlt : s < r
    · have hltz : (s : Int) < (r : Int) := by omega
      obtain ⟨c, hc⟩ : ∃ c : Nat, ((s : Int) + (r : Int)) / 2 = (c : Int) := ⟨(s + r) / 2, by omega⟩
      have hci : s ≤ c := by omega
      have hcj : c < r := by omega
      have hci2 := (hq c (by omega) (by omega)).2.2.2
      obtain ⟨qn, hqn⟩ : ∃ q : Nat, (p : Int) - (c : Int) = (q : Int) := ⟨p - c, by omega⟩
      have hqc : qn + c = p := by omega
      have HQ : Hid (mid + m - 1 - c = qn) := by show _ = _; omega
      have rqn : IntKind.i64.wrap ((p : Int) - (c : Int)) = (qn : Int) := by rw [hqn, IntKind.wrap_i64]; omega
      have hqb : qn < size := by omega
      go_wp2_with fail
      clear hc
      have e1a : ((qn : Int)).toNat = qn := by omega
      have p1a : (0 : Int) ≤ (qn : Int) := by omega
      have b1a : (qn : Int) < (size : Int) := by omega
      have r1a : IntKind.i64.wrap ((qn : Int)) = (qn : Int) := by rw [IntKind.wrap_i64]; omega
      have e1b : ((c : Int)).toNat = c := by omega
      have p1b : (0 : Int) ≤ (c : Int) := by omega
      have b1b : (c : Int) < (size : Int) := by omega
      have r1b : IntKind.i64.wrap ((c : Int)) = (c : Int) := by rw [IntKind.wrap_i64]; omega
      obtain ⟨x1, hx1⟩ : ∃ x, x = d[qn]! := ⟨_, rfl⟩
      obtain ⟨y1, hy1⟩ : ∃ x, x = d[c]! := ⟨_, rfl⟩
      have l1a := S1.out.ld R (by omega) P (qn) (by omega)
      have l1b := S1.out.ld R (by omega) P (c) (by omega)
      rw [← hx1] at l1a
      rw [← hy1] at l1b
      have hc1 := S1.out.cmp HC.out (by omega) x1 y1
      have E1 : Hid (ltOf cf d[qn]! d[c]! = decide (cf x1 y1 < 0)) := by rw [hx1, hy1]; exact rfl
      clear hx1 hy1
      by_cases hv1 : cf x1 y1 < 0
      · have hd1 : decide (cf x1 y1 < 0) = true := decide_eq_true hv1
        have V1 : Hid (ltOf cf d[qn]! d[c]! = true) := by rw [E1.out]; exact hd1
        go_wp2_with fail
        go_quiet_grown (first | (go_at_fn g; refine Calls.grown_of (hc1 _ _)))
        have S2 : Aside (SWK enc k w0 blk off d (grow (wr.drewN nq) osq)) := S1.out.grown nq osq
        clear l1a l1b hc1 S1
        generalize grow (wr.drewN nq) osq = w2 at S2 ⊢
        clear nq osq
        go_wp2
        go_roundg (c - s)
        case measure => omega
        case rel => exact ⟨s, c, rfl, rfl, hls, hci, by omega, Nat.le_refl _, S2, HL, fun y h1 h2 => cut_true (s0 := s0) (r0 := r0) (c := c) hO ag HT.out hq (by omega) (by rw [HQ.out]; exact V1.out) y h1 h2⟩
      · have hd1 : decide (cf x1 y1 < 0) = false := decide_eq_false hv1
        have V1 : Hid (ltOf cf d[qn]! d[c]! = false) := by rw [E1.out]; exact hd1
        go_wp2_with fail
        go_quiet_grown (first | (go_at_fn g; refine Calls.grown_of (hc1 _ _)))
        have S2 : Aside (SWK enc k w0 blk off d (grow (wr.drewN nq) osq)) := S1.out.grown nq osq
        clear l1a l1b hc1 S1
        generalize grow (wr.drewN nq) osq = w2 at S2 ⊢
        clear nq osq
        go_wp2
        go_roundg (r - (c + 1))
        case measure => omega
        case rel => exact ⟨c + 1, r, by go_num, rfl, by omega, by omega, hrr, Nat.le_refl _, S2, fun y h1 h2 => cut_false (s0 := s0) (r0 := r0) (c := c) hO ag HT.out hq (by omega) (by omega) (by rw [HQ.out]; exact V1.out) y h1 (by omega), HR⟩

    · have hltz : ¬ (s : Int) < (r : Int) := by omega
      have e : s = r := by omega
      subst e
      have hem : m ≤ mid + m - s := by omega
      have heb : mid + m - s ≤ b := by omega
      clear hkx hlt hsr'
      have hsm : s ≤ m := by omega
      have hsmid : s ≤ mid := by omega
      have has : a ≤ s := by omega
      by_cases x1 : s < m
      · by_cases x2 : s < mid
        · by_cases x3 : a < s
          · by_cases x4 : mid + m - s < b
            · have zx1 : (s : Int) < (m : Int) := by omega
              have zx2 : (s : Int) < (mid : Int) := by omega
              have zx3 : (a : Int) < (s : Int) := by omega
              have zx4 : (mid : Int) + (m : Int) - (s : Int) < (b : Int) := by omega
              have y2 : (m : Int) < (mid : Int) + (m : Int) - (s : Int) := by omega
              have y1 : (mid : Int) < (mid : Int) + (m : Int) - (s : Int) := by omega
              have hrot := rotate_gen LL.out enc g cb blk off cap s m (mid + m - s) d0 d w0 wr R (by omega) S1.out (by omega) (by omega) (by omega) (by omega)
              rw [hds, show ((mid + m - s : Nat) : Int) = (mid : Int) + (m : Int) - (s : Int) by omega] at hrot
              go_wp2_with (go_at_fn 227; refine hrot.mono ?_; rintro e w1 ⟨rfl, r1, hS1, hV1, hP1⟩)
              have hp1 : PIn a b d r1 := (PIn.refl a b d).trans hP1 (by omega) (by omega) (by omega)
              clear hrot hP1
              have hz1 : r1.size = size := by rw [hV1.1]; exact hds
              obtain ⟨T1, T2, X1⟩ := Stb.cut_halves (lt := ltOf cf) hO ag (by omega) HT.out ham hmid1 hmid2 (s0 := s0) (r0 := r0) H0.out ⟨hls, hsr, HL.out, HR.out⟩ hV1
              have T1 : Hid (Stb.Two ltR PL PR r1 a s mid) := T1
              have T2 : Hid (Stb.Two ltR PL PR r1 mid (mid + m - s) b) := T2
              have X1 : Hid (∀ x y, a ≤ x → x < mid → mid ≤ y → y < b → ltR r1[y]! r1[x]! = false) := X1
              have hp1 : Hid (PIn a b d r1) := hp1
              have S3 : Aside (SWK enc k w0 blk off r1 w1) := hS1
              clear hV1 hS1 S1 HL HR HT H0
              have hs1 := IH.out a s mid r1 w1 (by omega) hz1 S3.out T1.out (by omega) (by omega) (by omega)
              go_wp2_with (go_at_fn 202; refine hs1.mono ?_; rintro e w2 ⟨rfl, r2, hS2, hD2, hP2⟩)
              have hp2 : Hid (PIn a b r1 r2) := (PIn.refl a b r1).trans hP2 (by omega) (by omega) (by omega)
              have hD2 : Hid (Stb.Done ltR r1 a mid r2) := hD2
              have S4 : Aside (SWK enc k w0 blk off r2 w2) := hS2
              clear hs1 hP2 hS2
              have hz2 : r2.size = size := by rw [hD2.out.1.1]; exact hz1
              have T3 : Hid (Stb.Two ltR PL PR r2 mid (mid + m - s) b) := two_same T2.out (fun x h1 _ => hD2.out.1.2.1 x (Or.inr h1)) (by omega) (by omega)
              clear S3 T1 T2
              have hs2 := IH.out mid (mid + m - s) b r2 w2 (by omega) hz2 S4.out T3.out (by omega) (by omega) (by omega)
              rw [show ((mid + m - s : Nat) : Int) = (mid : Int) + (m : Int) - (s : Int) by omega] at hs2
              go_wp2_with (go_at_fn 202; refine hs2.mono ?_; rintro e w3 ⟨rfl, r3, hS3, hD3, hP3⟩)
              have hp3 : PIn a b r2 r3 := (PIn.refl a b r2).trans hP3 (by omega) (by omega) (by omega)
              go_end0
              refine ⟨rfl, r3, hS3, Stb.halves_done (by omega) (by omega) (by omega) (hp1.out a b (Nat.le_refl _) (Nat.le_refl _) (by omega)) X1.out hD2.out hD3, (hp1.out.trans hp2.out (Nat.le_refl _) (Nat.le_refl _) (by omega)).trans hp3 (Nat.le_refl _) (Nat.le_refl _) (by omega)⟩
            · have zx1 : (s : Int) < (m : Int) := by omega
              have zx2 : (s : Int) < (mid : Int) := by omega
              have zx3 : (a : Int) < (s : Int) := by omega
              have zx4 : ¬ (mid : Int) + (m : Int) - (s : Int) < (b : Int) := by omega
              have y2 : (m : Int) < (mid : Int) + (m : Int) - (s : Int) := by omega
              have y1 : (mid : Int) < (mid : Int) + (m : Int) - (s : Int) := by omega
              have hrot := rotate_gen LL.out enc g cb blk off cap s m (mid + m - s) d0 d w0 wr R (by omega) S1.out (by omega) (by omega) (by omega) (by omega)
              rw [hds, show ((mid + m - s : Nat) : Int) = (mid : Int) + (m : Int) - (s : Int) by omega] at hrot
              go_wp2_with (go_at_fn 227; refine hrot.mono ?_; rintro e w1 ⟨rfl, r1, hS1, hV1, hP1⟩)
              have hp1 : PIn a b d r1 := (PIn.refl a b d).trans hP1 (by omega) (by omega) (by omega)
              clear hrot hP1
              have hz1 : r1.size = size := by rw [hV1.1]; exact hds
              obtain ⟨T1, T2, X1⟩ := Stb.cut_halves (lt := ltOf cf) hO ag (by omega) HT.out ham hmid1 hmid2 (s0 := s0) (r0 := r0) H0.out ⟨hls, hsr, HL.out, HR.out⟩ hV1
              have T1 : Hid (Stb.Two ltR PL PR r1 a s mid) := T1
              have T2 : Hid (Stb.Two ltR PL PR r1 mid (mid + m - s) b) := T2
              have X1 : Hid (∀ x y, a ≤ x → x < mid → mid ≤ y → y < b → ltR r1[y]! r1[x]! = false) := X1
              have hp1 : Hid (PIn a b d r1) := hp1
              have S3 : Aside (SWK enc k w0 blk off r1 w1) := hS1
              clear hV1 hS1 S1 HL HR HT H0
              have hs1 := IH.out a s mid r1 w1 (by omega) hz1 S3.out T1.out (by omega) (by omega) (by omega)
              go_wp2_with (go_at_fn 202; refine hs1.mono ?_; rintro e w2 ⟨rfl, r2, hS2, hD2, hP2⟩)
              have hp2 : Hid (PIn a b r1 r2) := (PIn.refl a b r1).trans hP2 (by omega) (by omega) (by omega)
              have hD2 : Hid (Stb.Done ltR r1 a mid r2) := hD2
              have S4 : Aside (SWK enc k w0 blk off r2 w2) := hS2
              clear hs1 hP2 hS2
              have hz2 : r2.size = size := by rw [hD2.out.1.1]; exact hz1
              have T3 : Hid (Stb.Two ltR PL PR r2 mid (mid + m - s) b) := two_same T2.out (fun x h1 _ => hD2.out.1.2.1 x (Or.inr h1)) (by omega) (by omega)
              clear S3 T1 T2
              go_wp2
              go_end0
              obtain ⟨r3, hr3⟩ : ∃ r3, r3 = r2 := ⟨_, rfl⟩
              have hS3 : SWK enc k w0 blk off r3 w2 := by rw [hr3]; exact S4.out
              have hp3 : PIn a b r2 r3 := by rw [hr3]; exact PIn.refl _ _ _
              have hD3 : Stb.Done ltR r2 mid b r3 := by rw [hr3]; exact ⟨Stb.perm_refl _ _ _, Stb.two_none T3.out (by omega)⟩
              refine ⟨rfl, r3, hS3, Stb.halves_done (by omega) (by omega) (by omega) (hp1.out a b (Nat.le_refl _) (Nat.le_refl _) (by omega)) X1.out hD2.out hD3, (hp1.out.trans hp2.out (Nat.le_refl _) (Nat.le_refl _) (by omega)).trans hp3 (Nat.le_refl _) (Nat.le_refl _) (by omega)⟩
          · by_cases x4 : mid + m - s < b
            · have zx1 : (s : Int) < (m : Int) := by omega
              have zx2 : (s : Int) < (mid : Int) := by omega
              have zx3 : ¬ (a : Int) < (s : Int) := by omega
              have zx4 : (mid : Int) + (m : Int) - (s : Int) < (b : Int) := by omega
              have y2 : (m : Int) < (mid : Int) + (m : Int) - (s : Int) := by omega
              have y1 : (mid : Int) < (mid : Int) + (m : Int) - (s : Int) := by omega
              have hrot := rotate_gen LL.out enc g cb blk off cap s m (mid + m - s) d0 d w0 wr R (by omega) S1.out (by omega) (by omega) (by omega) (by omega)
              rw [hds, show ((mid + m - s : Nat) : Int) = (mid : Int) + (m : Int) - (s : Int) by omega] at hrot
              go_wp2_with (go_at_fn 227; refine hrot.mono ?_; rintro e w1 ⟨rfl, r1, hS1, hV1, hP1⟩)
              have hp1 : PIn a b d r1 := (PIn.refl a b d).trans hP1 (by omega) (by omega) (by omega)
              clear hrot hP1
              have hz1 : r1.size = size := by rw [hV1.1]; exact hds
              obtain ⟨T1, T2, X1⟩ := Stb.cut_halves (lt := ltOf cf) hO ag (by omega) HT.out ham hmid1 hmid2 (s0 := s0) (r0 := r0) H0.out ⟨hls, hsr, HL.out, HR.out⟩ hV1
              have T1 : Hid (Stb.Two ltR PL PR r1 a s mid) := T1
              have T2 : Hid (Stb.Two ltR PL PR r1 mid (mid + m - s) b) := T2
              have X1 : Hid (∀ x y, a ≤ x → x < mid → mid ≤ y → y < b → ltR r1[y]! r1[x]! = false) := X1
              have hp1 : Hid (PIn a b d r1) := hp1
              have S3 : Aside (SWK enc k w0 blk off r1 w1) := hS1
              clear hV1 hS1 S1 HL HR HT H0
              obtain ⟨w2, hw2⟩ : ∃ w2, w2 = w1 := ⟨_, rfl⟩
              obtain ⟨r2, hr2⟩ : ∃ r2, r2 = r1 := ⟨_, rfl⟩
              have S4 : Aside (SWK enc k w0 blk off r2 w2) := by rw [hr2, hw2]; exact S3.out
              have hp2 : Hid (PIn a b r1 r2) := by rw [hr2]; exact PIn.refl _ _ _
              have hD2 : Hid (Stb.Done ltR r1 a mid r2) := by rw [hr2]; exact ⟨Stb.perm_refl _ _ _, Stb.two_none T1.out (by omega)⟩
              rw [← hw2]
              clear hw2 hr2
              have hz2 : r2.size = size := by rw [hD2.out.1.1]; exact hz1
              have T3 : Hid (Stb.Two ltR PL PR r2 mid (mid + m - s) b) := two_same T2.out (fun x h1 _ => hD2.out.1.2.1 x (Or.inr h1)) (by omega) (by omega)
              clear S3 T1 T2
              have hs2 := IH.out mid (mid + m - s) b r2 w2 (by omega) hz2 S4.out T3.out (by omega) (by omega) (by omega)
              rw [show ((mid + m - s : Nat) : Int) = (mid : Int) + (m : Int) - (s : Int) by omega] at hs2
              go_wp2_with (go_at_fn 202; refine hs2.mono ?_; rintro e w3 ⟨rfl, r3, hS3, hD3, hP3⟩)
              have hp3 : PIn a b r2 r3 := (PIn.refl a b r2).trans hP3 (by omega) (by omega) (by omega)
              go_end0
              refine ⟨rfl, r3, hS3, Stb.halves_done (by omega) (by omega) (by omega) (hp1.out a b (Nat.le_refl _) (Nat.le_refl _) (by omega)) X1.out hD2.out hD3, (hp1.out.trans hp2.out (Nat.le_refl _) (Nat.le_refl _) (by omega)).trans hp3 (Nat.le_refl _) (Nat.le_refl _) (by omega)⟩
            · have zx1 : (s : Int) < (m : Int) := by omega
              have zx2 : (s : Int) < (mid : Int) := by omega
              have zx3 : ¬ (a : Int) < (s : Int) := by omega
              have zx4 : ¬ (mid : Int) + (m : Int) - (s : Int) < (b : Int) := by omega
              have y2 : (m : Int) < (mid : Int) + (m : Int) - (s : Int) := by omega
              have y1 : (mid : Int) < (mid : Int) + (m : Int) - (s : Int) := by omega
              have hrot := rotate_gen LL.out enc g cb blk off cap s m (mid + m - s) d0 d w0 wr R (by omega) S1.out (by omega) (by omega) (by omega) (by omega)
              rw [hds, show ((mid + m - s : Nat) : Int) = (mid : Int) + (m : Int) - (s : Int) by omega] at hrot
              go_wp2_with (go_at_fn 227; refine hrot.mono ?_; rintro e w1 ⟨rfl, r1, hS1, hV1, hP1⟩)
              have hp1 : PIn a b d r1 := (PIn.refl a b d).trans hP1 (by omega) (by omega) (by omega)
              clear hrot hP1
              have hz1 : r1.size = size := by rw [hV1.1]; exact hds
              obtain ⟨T1, T2, X1⟩ := Stb.cut_halves (lt := ltOf cf) hO ag (by omega) HT.out ham hmid1 hmid2 (s0 := s0) (r0 := r0) H0.out ⟨hls, hsr, HL.out, HR.out⟩ hV1
              have T1 : Hid (Stb.Two ltR PL PR r1 a s mid) := T1
              have T2 : Hid (Stb.Two ltR PL PR r1 mid (mid + m - s) b) := T2
              have X1 : Hid (∀ x y, a ≤ x → x < mid → mid ≤ y → y < b → ltR r1[y]! r1[x]! = false) := X1
              have hp1 : Hid (PIn a b d r1) := hp1
              have S3 : Aside (SWK enc k w0 blk off r1 w1) := hS1
              clear hV1 hS1 S1 HL HR HT H0
              obtain ⟨w2, hw2⟩ : ∃ w2, w2 = w1 := ⟨_, rfl⟩
              obtain ⟨r2, hr2⟩ : ∃ r2, r2 = r1 := ⟨_, rfl⟩
              have S4 : Aside (SWK enc k w0 blk off r2 w2) := by rw [hr2, hw2]; exact S3.out
              have hp2 : Hid (PIn a b r1 r2) := by rw [hr2]; exact PIn.refl _ _ _
              have hD2 : Hid (Stb.Done ltR r1 a mid r2) := by rw [hr2]; exact ⟨Stb.perm_refl _ _ _, Stb.two_none T1.out (by omega)⟩
              rw [← hw2]
              clear hw2 hr2
              have hz2 : r2.size = size := by rw [hD2.out.1.1]; exact hz1
              have T3 : Hid (Stb.Two ltR PL PR r2 mid (mid + m - s) b) := two_same T2.out (fun x h1 _ => hD2.out.1.2.1 x (Or.inr h1)) (by omega) (by omega)
              clear S3 T1 T2
              go_wp2
              go_end0
              obtain ⟨r3, hr3⟩ : ∃ r3, r3 = r2 := ⟨_, rfl⟩
              have hS3 : SWK enc k w0 blk off r3 w2 := by rw [hr3]; exact S4.out
              have hp3 : PIn a b r2 r3 := by rw [hr3]; exact PIn.refl _ _ _
              have hD3 : Stb.Done ltR r2 mid b r3 := by rw [hr3]; exact ⟨Stb.perm_refl _ _ _, Stb.two_none T3.out (by omega)⟩
              refine ⟨rfl, r3, hS3, Stb.halves_done (by omega) (by omega) (by omega) (hp1.out a b (Nat.le_refl _) (Nat.le_refl _) (by omega)) X1.out hD2.out hD3, (hp1.out.trans hp2.out (Nat.le_refl _) (Nat.le_refl _) (by omega)).trans hp3 (Nat.le_refl _) (Nat.le_refl _) (by omega)⟩
        · by_cases x3 : a < s
          · by_cases x4 : mid + m - s < b
            · have zx1 : (s : Int) < (m : Int) := by omega
              have zx2 : ¬ (s : Int) < (mid : Int) := by omega
              have zx3 : (a : Int) < (s : Int) := by omega
              have zx4 : (mid : Int) + (m : Int) - (s : Int) < (b : Int) := by omega
              have y2 : ¬ (m : Int) < (mid : Int) + (m : Int) - (s : Int) := by omega
              have y1 : (mid : Int) < (mid : Int) + (m : Int) - (s : Int) := by omega
              obtain ⟨w1, hw1⟩ : ∃ w1, w1 = wr := ⟨_, rfl⟩
              obtain ⟨r1, hr1⟩ : ∃ r1, r1 = d := ⟨_, rfl⟩
              have hS1 : SWK enc k w0 blk off r1 w1 := by rw [hr1, hw1]; exact S1.out
              have hV1 : Stb.Via d (Stb.rotI s m (mid + m - s)) r1 := by rw [hr1]; exact (Stb.via_refl d).congr (fun x _ => (Stb.rot_none _ _ _ _ (by omega) (by omega) (by omega)).symm)
              have hp1 : PIn a b d r1 := by rw [hr1]; exact PIn.refl _ _ _
              rw [← hw1]
              clear hw1 hr1
              have hz1 : r1.size = size := by rw [hV1.1]; exact hds
              obtain ⟨T1, T2, X1⟩ := Stb.cut_halves (lt := ltOf cf) hO ag (by omega) HT.out ham hmid1 hmid2 (s0 := s0) (r0 := r0) H0.out ⟨hls, hsr, HL.out, HR.out⟩ hV1
              have T1 : Hid (Stb.Two ltR PL PR r1 a s mid) := T1
              have T2 : Hid (Stb.Two ltR PL PR r1 mid (mid + m - s) b) := T2
              have X1 : Hid (∀ x y, a ≤ x → x < mid → mid ≤ y → y < b → ltR r1[y]! r1[x]! = false) := X1
              have hp1 : Hid (PIn a b d r1) := hp1
              have S3 : Aside (SWK enc k w0 blk off r1 w1) := hS1
              clear hV1 hS1 S1 HL HR HT H0
              obtain ⟨w2, hw2⟩ : ∃ w2, w2 = w1 := ⟨_, rfl⟩
              obtain ⟨r2, hr2⟩ : ∃ r2, r2 = r1 := ⟨_, rfl⟩
              have S4 : Aside (SWK enc k w0 blk off r2 w2) := by rw [hr2, hw2]; exact S3.out
              have hp2 : Hid (PIn a b r1 r2) := by rw [hr2]; exact PIn.refl _ _ _
              have hD2 : Hid (Stb.Done ltR r1 a mid r2) := by rw [hr2]; exact ⟨Stb.perm_refl _ _ _, Stb.two_none T1.out (by omega)⟩
              rw [← hw2]
              clear hw2 hr2
              have hz2 : r2.size = size := by rw [hD2.out.1.1]; exact hz1
              have T3 : Hid (Stb.Two ltR PL PR r2 mid (mid + m - s) b) := two_same T2.out (fun x h1 _ => hD2.out.1.2.1 x (Or.inr h1)) (by omega) (by omega)
              clear S3 T1 T2
              have hs2 := IH.out mid (mid + m - s) b r2 w2 (by omega) hz2 S4.out T3.out (by omega) (by omega) (by omega)
              rw [show ((mid + m - s : Nat) : Int) = (mid : Int) + (m : Int) - (s : Int) by omega] at hs2
              go_wp2_with (go_at_fn 202; refine hs2.mono ?_; rintro e w3 ⟨rfl, r3, hS3, hD3, hP3⟩)
              have hp3 : PIn a b r2 r3 := (PIn.refl a b r2).trans hP3 (by omega) (by omega) (by omega)
              go_end0
              refine ⟨rfl, r3, hS3, Stb.halves_done (by omega) (by omega) (by omega) (hp1.out a b (Nat.le_refl _) (Nat.le_refl _) (by omega)) X1.out hD2.out hD3, (hp1.out.trans hp2.out (Nat.le_refl _) (Nat.le_refl _) (by omega)).trans hp3 (Nat.le_refl _) (Nat.le_refl _) (by omega)⟩
            · have zx1 : (s : Int) < (m : Int) := by omega
              have zx2 : ¬ (s : Int) < (mid : Int) := by omega
              have zx3 : (a : Int) < (s : Int) := by omega
              have zx4 : ¬ (mid : Int) + (m : Int) - (s : Int) < (b : Int) := by omega
              have y2 : ¬ (m : Int) < (mid : Int) + (m : Int) - (s : Int) := by omega
              have y1 : (mid : Int) < (mid : Int) + (m : Int) - (s : Int) := by omega
              obtain ⟨w1, hw1⟩ : ∃ w1, w1 = wr := ⟨_, rfl⟩
              obtain ⟨r1, hr1⟩ : ∃ r1, r1 = d := ⟨_, rfl⟩
              have hS1 : SWK enc k w0 blk off r1 w1 := by rw [hr1, hw1]; exact S1.out
              have hV1 : Stb.Via d (Stb.rotI s m (mid + m - s)) r1 := by rw [hr1]; exact (Stb.via_refl d).congr (fun x _ => (Stb.rot_none _ _ _ _ (by omega) (by omega) (by omega)).symm)
              have hp1 : PIn a b d r1 := by rw [hr1]; exact PIn.refl _ _ _
              rw [← hw1]
              clear hw1 hr1
              have hz1 : r1.size = size := by rw [hV1.1]; exact hds
              obtain ⟨T1, T2, X1⟩ := Stb.cut_halves (lt := ltOf cf) hO ag (by omega) HT.out ham hmid1 hmid2 (s0 := s0) (r0 := r0) H0.out ⟨hls, hsr, HL.out, HR.out⟩ hV1
              have T1 : Hid (Stb.Two ltR PL PR r1 a s mid) := T1
              have T2 : Hid (Stb.Two ltR PL PR r1 mid (mid + m - s) b) := T2
              have X1 : Hid (∀ x y, a ≤ x → x < mid → mid ≤ y → y < b → ltR r1[y]! r1[x]! = false) := X1
              have hp1 : Hid (PIn a b d r1) := hp1
              have S3 : Aside (SWK enc k w0 blk off r1 w1) := hS1
              clear hV1 hS1 S1 HL HR HT H0
              obtain ⟨w2, hw2⟩ : ∃ w2, w2 = w1 := ⟨_, rfl⟩
              obtain ⟨r2, hr2⟩ : ∃ r2, r2 = r1 := ⟨_, rfl⟩
              have S4 : Aside (SWK enc k w0 blk off r2 w2) := by rw [hr2, hw2]; exact S3.out
              have hp2 : Hid (PIn a b r1 r2) := by rw [hr2]; exact PIn.refl _ _ _
              have hD2 : Hid (Stb.Done ltR r1 a mid r2) := by rw [hr2]; exact ⟨Stb.perm_refl _ _ _, Stb.two_none T1.out (by omega)⟩
              rw [← hw2]
              clear hw2 hr2
              have hz2 : r2.size = size := by rw [hD2.out.1.1]; exact hz1
              have T3 : Hid (Stb.Two ltR PL PR r2 mid (mid + m - s) b) := two_same T2.out (fun x h1 _ => hD2.out.1.2.1 x (Or.inr h1)) (by omega) (by omega)
              clear S3 T1 T2
              go_wp2
              go_end0
              obtain ⟨r3, hr3⟩ : ∃ r3, r3 = r2 := ⟨_, rfl⟩
              have hS3 : SWK enc k w0 blk off r3 w2 := by rw [hr3]; exact S4.out
              have hp3 : PIn a b r2 r3 := by rw [hr3]; exact PIn.refl _ _ _
              have hD3 : Stb.Done ltR r2 mid b r3 := by rw [hr3]; exact ⟨Stb.perm_refl _ _ _, Stb.two_none T3.out (by omega)⟩
              refine ⟨rfl, r3, hS3, Stb.halves_done (by omega) (by omega) (by omega) (hp1.out a b (Nat.le_refl _) (Nat.le_refl _) (by omega)) X1.out hD2.out hD3, (hp1.out.trans hp2.out (Nat.le_refl _) (Nat.le_refl _) (by omega)).trans hp3 (Nat.le_refl _) (Nat.le_refl _) (by omega)⟩
          · by_cases x4 : mid + m - s < b
            · have zx1 : (s : Int) < (m : Int) := by omega
              have zx2 : ¬ (s : Int) < (mid : Int) := by omega
              have zx3 : ¬ (a : Int) < (s : Int) := by omega
              have zx4 : (mid : Int) + (m : Int) - (s : Int) < (b : Int) := by omega
              have y2 : ¬ (m : Int) < (mid : Int) + (m : Int) - (s : Int) := by omega
              have y1 : (mid : Int) < (mid : Int) + (m : Int) - (s : Int) := by omega
              obtain ⟨w1, hw1⟩ : ∃ w1, w1 = wr := ⟨_, rfl⟩
              obtain ⟨r1, hr1⟩ : ∃ r1, r1 = d := ⟨_, rfl⟩
              have hS1 : SWK enc k w0 blk off r1 w1 := by rw [hr1, hw1]; exact S1.out
              have hV1 : Stb.Via d (Stb.rotI s m (mid + m - s)) r1 := by rw [hr1]; exact (Stb.via_refl d).congr (fun x _ => (Stb.rot_none _ _ _ _ (by omega) (by omega) (by omega)).symm)
              have hp1 : PIn a b d r1 := by rw [hr1]; exact PIn.refl _ _ _
              rw [← hw1]
              clear hw1 hr1
              have hz1 : r1.size = size := by rw [hV1.1]; exact hds
              obtain ⟨T1, T2, X1⟩ := Stb.cut_halves (lt := ltOf cf) hO ag (by omega) HT.out ham hmid1 hmid2 (s0 := s0) (r0 := r0) H0.out ⟨hls, hsr, HL.out, HR.out⟩ hV1
              have T1 : Hid (Stb.Two ltR PL PR r1 a s mid) := T1
              have T2 : Hid (Stb.Two ltR PL PR r1 mid (mid + m - s) b) := T2
              have X1 : Hid (∀ x y, a ≤ x → x < mid → mid ≤ y → y < b → ltR r1[y]! r1[x]! = false) := X1
              have hp1 : Hid (PIn a b d r1) := hp1
              have S3 : Aside (SWK enc k w0 blk off r1 w1) := hS1
              clear hV1 hS1 S1 HL HR HT H0
              obtain ⟨w2, hw2⟩ : ∃ w2, w2 = w1 := ⟨_, rfl⟩
              obtain ⟨r2, hr2⟩ : ∃ r2, r2 = r1 := ⟨_, rfl⟩
              have S4 : Aside (SWK enc k w0 blk off r2 w2) := by rw [hr2, hw2]; exact S3.out
              have hp2 : Hid (PIn a b r1 r2) := by rw [hr2]; exact PIn.refl _ _ _
              have hD2 : Hid (Stb.Done ltR r1 a mid r2) := by rw [hr2]; exact ⟨Stb.perm_refl _ _ _, Stb.two_none T1.out (by omega)⟩
              rw [← hw2]
              clear hw2 hr2
              have hz2 : r2.size = size := by rw [hD2.out.1.1]; exact hz1
              have T3 : Hid (Stb.Two ltR PL PR r2 mid (mid + m - s) b) := two_same T2.out (fun x h1 _ => hD2.out.1.2.1 x (Or.inr h1)) (by omega) (by omega)
              clear S3 T1 T2
              have hs2 := IH.out mid (mid + m - s) b r2 w2 (by omega) hz2 S4.out T3.out (by omega) (by omega) (by omega)
              rw [show ((mid + m - s : Nat) : Int) = (mid : Int) + (m : Int) - (s : Int) by omega] at hs2
              go_wp2_with (go_at_fn 202; refine hs2.mono ?_; rintro e w3 ⟨rfl, r3, hS3, hD3, hP3⟩)
              have hp3 : PIn a b r2 r3 := (PIn.refl a b r2).trans hP3 (by omega) (by omega) (by omega)
              go_end0
              refine ⟨rfl, r3, hS3, Stb.halves_done (by omega) (by omega) (by omega) (hp1.out a b (Nat.le_refl _) (Nat.le_refl _) (by omega)) X1.out hD2.out hD3, (hp1.out.trans hp2.out (Nat.le_refl _) (Nat.le_refl _) (by omega)).trans hp3 (Nat.le_refl _) (Nat.le_refl _) (by omega)⟩
            · have zx1 : (s : Int) < (m : Int) := by omega
              have zx2 : ¬ (s : Int) < (mid : Int) := by omega
              have zx3 : ¬ (a : Int) < (s : Int) := by omega
              have zx4 : ¬ (mid : Int) + (m : Int) - (s : Int) < (b : Int) := by omega
              have y2 : ¬ (m : Int) < (mid : Int) + (m : Int) - (s : Int) := by omega
              have y1 : (mid : Int) < (mid : Int) + (m : Int) - (s : Int) := by omega
              obtain ⟨w1, hw1⟩ : ∃ w1, w1 = wr := ⟨_, rfl⟩
              obtain ⟨r1, hr1⟩ : ∃ r1, r1 = d := ⟨_, rfl⟩
              have hS1 : SWK enc k w0 blk off r1 w1 := by rw [hr1, hw1]; exact S1.out
              have hV1 : Stb.Via d (Stb.rotI s m (mid + m - s)) r1 := by rw [hr1]; exact (Stb.via_refl d).congr (fun x _ => (Stb.rot_none _ _ _ _ (by omega) (by omega) (by omega)).symm)
              have hp1 : PIn a b d r1 := by rw [hr1]; exact PIn.refl _ _ _
              rw [← hw1]
              clear hw1 hr1
              have hz1 : r1.size = size := by rw [hV1.1]; exact hds
              obtain ⟨T1, T2, X1⟩ := Stb.cut_halves (lt := ltOf cf) hO ag (by omega) HT.out ham hmid1 hmid2 (s0 := s0) (r0 := r0) H0.out ⟨hls, hsr, HL.out, HR.out⟩ hV1
              have T1 : Hid (Stb.Two ltR PL PR r1 a s mid) := T1
              have T2 : Hid (Stb.Two ltR PL PR r1 mid (mid + m - s) b) := T2
              have X1 : Hid (∀ x y, a ≤ x → x < mid → mid ≤ y → y < b → ltR r1[y]! r1[x]! = false) := X1
              have hp1 : Hid (PIn a b d r1) := hp1
              have S3 : Aside (SWK enc k w0 blk off r1 w1) := hS1
              clear hV1 hS1 S1 HL HR HT H0
              obtain ⟨w2, hw2⟩ : ∃ w2, w2 = w1 := ⟨_, rfl⟩
              obtain ⟨r2, hr2⟩ : ∃ r2, r2 = r1 := ⟨_, rfl⟩
              have S4 : Aside (SWK enc k w0 blk off r2 w2) := by rw [hr2, hw2]; exact S3.out
              have hp2 : Hid (PIn a b r1 r2) := by rw [hr2]; exact PIn.refl _ _ _
              have hD2 : Hid (Stb.Done ltR r1 a mid r2) := by rw [hr2]; exact ⟨Stb.perm_refl _ _ _, Stb.two_none T1.out (by omega)⟩
              rw [← hw2]
              clear hw2 hr2
              have hz2 : r2.size = size := by rw [hD2.out.1.1]; exact hz1
              have T3 : Hid (Stb.Two ltR PL PR r2 mid (mid + m - s) b) := two_same T2.out (fun x h1 _ => hD2.out.1.2.1 x (Or.inr h1)) (by omega) (by omega)
              clear S3 T1 T2
              go_wp2
              go_end0
              obtain ⟨r3, hr3⟩ : ∃ r3, r3 = r2 := ⟨_, rfl⟩
              have hS3 : SWK enc k w0 blk off r3 w2 := by rw [hr3]; exact S4.out
              have hp3 : PIn a b r2 r3 := by rw [hr3]; exact PIn.refl _ _ _
              have hD3 : Stb.Done ltR r2 mid b r3 := by rw [hr3]; exact ⟨Stb.perm_refl _ _ _, Stb.two_none T3.out (by omega)⟩
              refine ⟨rfl, r3, hS3, Stb.halves_done (by omega) (by omega) (by omega) (hp1.out a b (Nat.le_refl _) (Nat.le_refl _) (by omega)) X1.out hD2.out hD3, (hp1.out.trans hp2.out (Nat.le_refl _) (Nat.le_refl _) (by omega)).trans hp3 (Nat.le_refl _) (Nat.le_refl _) (by omega)⟩
      · by_cases x2 : s < mid
        · by_cases x3 : a < s
          · by_cases x4 : mid + m - s < b
            · exfalso; omega
            · exfalso; omega
          · by_cases x4 : mid + m - s < b
            · exfalso; omega
            · exfalso; omega
        · by_cases x3 : a < s
          · by_cases x4 : mid + m - s < b
            · exfalso; omega
            · exfalso; omega
          · by_cases x4 : mid + m - s < b
            · exfalso; omega
            · exfalso; omega

end Go.Proofs.YtidkpalckafgkaaGreatDoor
