/- The stable sort's walks: two blocks turned, at elements of k cells. -/
import Derived.Test.YtidkpalckafgkaaGreatDoorS2
namespace Go.Proofs.YtidkpalckafgkaaGreatDoor
open Go Go.Shelf Go.RowKit Go.Lib Go.Sort
variable {P : Program} {α : Type} [Inhabited α]

/-- What is left to be turned makes the whole turning. -/
def Rest (d dk : Array α) (a m b i j : Nat) : Prop := ∃ f, Stb.Via d f dk ∧ ∀ x, x < d.size → f (Stb.rotI (m - i) m (m + j) x) = Stb.rotI a m b x
theorem rest_start (d : Array α) (a m b : Nat) (h1 : a ≤ m) (h2 : m ≤ b) : Rest d d a m b (m - a) (b - m) :=
  ⟨fun x => x, Stb.via_refl d, fun x _ => by rw [show m - (m - a) = a by omega, show m + (b - m) = b by omega]⟩
theorem rest_right {d dk r : Array α} {a m b i j : Nat} (h : Rest d dk a m b i j) (hv : Stb.Via dk (Stb.swI (m - i) m j) r) (hi : i ≤ m) (hj : j < i) (hs : m + j ≤ d.size) : Rest d r a m b (i - j) j := by
  obtain ⟨f, h1, h2⟩ := h
  refine ⟨fun x => f (Stb.swI (m - i) m j x), h1.trans hv (fun x hx => Stb.swI_lt _ _ _ _ _ hs hx), fun x hx => ?_⟩
  show f (Stb.swI (m - i) m j (Stb.rotI (m - (i - j)) m (m + j) x)) = _
  rw [Stb.rot_right m i j x hi hj, h2 x hx]
theorem rest_left {d dk r : Array α} {a m b i j : Nat} (h : Rest d dk a m b i j) (hv : Stb.Via dk (Stb.swI (m - i) (m + j - i) i) r) (hi : i ≤ m) (hj : i < j) (hs : m + j ≤ d.size) : Rest d r a m b i (j - i) := by
  obtain ⟨f, h1, h2⟩ := h
  refine ⟨fun x => f (Stb.swI (m - i) (m + j - i) i x), h1.trans hv (fun x hx => Stb.swI_lt _ _ _ _ _ (by omega) hx), fun x hx => ?_⟩
  show f (Stb.swI (m - i) (m + j - i) i (Stb.rotI (m - i) m (m + (j - i)) x)) = _
  rw [Stb.rot_left m i j x hi hj, h2 x hx]
theorem rest_same {d dk r : Array α} {a m b i : Nat} (h : Rest d dk a m b i i) (hv : Stb.Via dk (Stb.swI (m - i) m i) r) (hi : i ≤ m) (hs : m + i ≤ d.size) : Stb.Via d (Stb.rotI a m b) r := by
  obtain ⟨f, h1, h2⟩ := h
  refine (h1.trans hv (fun x hx => Stb.swI_lt _ _ _ _ _ hs hx)).congr (fun x hx => ?_)
  rw [Stb.rot_same m i x hi, h2 x hx]

set_option maxHeartbeats 4000000 in
set_option maxRecDepth 1000000 in
theorem rotate_gen {k : Nat} (L : PF P k) (enc : α → List Value) (g : Nat) (cb : Array Value) (blk off cap a m b : Nat) (d0 d : Array α) (w0 w : World)
    (R : RowK enc k w0 blk off d0) (hs : d0.size = d.size) (S : SWK enc k w0 blk off d w) (ham : a < m) (hmb : m < b) (hb : b ≤ d.size) (hsz : d.size < 4611686018427387904) :
    Calls P 227 #[.slice (some ⟨blk, off, none⟩) d.size cap, .int .i64 a, .int .i64 m, .int .i64 b, .func (.func g) #[] cb] w fun e w' => e = .returned (.tuple #[]) ∧ ∃ r, SWK enc k w0 blk off r w' ∧ Stb.Via d (Stb.rotI a m b) r ∧ PIn a b d r := by
  have mixed := L.mixed; have t0 := L.t0; have a0 := L.a0; have z0 := L.z0; have v0 := L.v0; have t3 := L.t3; have a3 := L.a3; have z3 := L.z3; have v3 := L.v3; have t4 := L.t4; have a4 := L.a4; have z4 := L.z4; have v4 := L.v4; have t40 := L.t40; have a40 := L.a40; have z40 := L.z40; have v40 := L.v40; have t151 := L.t151; have a151 := L.a151; have z151 := L.z151; have v151 := L.v151; have aE := L.aE; have zE := L.zE
  have FG := L.f227
  have e235 := L.e235
  have S0 : Aside (SWK enc k w0 blk off d w) := S
  have LL : Hid (PF P k) := L
  have e1 : (m : Int) - (a : Int) = ((m - a : Nat) : Int) := by omega
  have e2 : (b : Int) - (m : Int) = ((b - m : Nat) : Int) := by omega
  have r1 : IntKind.i64.wrap ((m : Int) - (a : Int)) = ((m - a : Nat) : Int) := by rw [IntKind.wrap_i64]; omega
  have r2 : IntKind.i64.wrap ((b : Int) - (m : Int)) = ((b - m : Nat) : Int) := by rw [IntKind.wrap_i64]; omega
  clear S L
  go_enter FG, Tryz.ntmps227
  go_wp2
  go_loopg [10, 11] (b - a) (fun kx s10 s11 wr => ∃ (i j : Nat) (dk : Array α), s10 = .int .i64 i ∧ s11 = .int .i64 j ∧ 0 < i ∧ 0 < j ∧ a + i ≤ m ∧ m + j ≤ b ∧ i + j ≤ kx ∧ dk.size = d.size ∧ Aside (SWK enc k w0 blk off dk wr) ∧ Hid (Rest d dk a m b i j) ∧ Hid (PIn a b d dk))
  case atStart => exact ⟨m - a, b - m, d, by first | rfl | (rw [e1]), by first | rfl | (rw [e2]), by omega, by omega, by omega, by omega, by omega, rfl, S0, rest_start d a m b (by omega) (by omega), PIn.refl _ _ _⟩
  case round =>
    clear S0 e1 e2 r1 r2
    obtain ⟨i, j, dk, rfl, rfl, hi0, hj0, hia, hjb, hkx, hds, S1, HR, HP⟩ := hrel
    by_cases hne : i = j
    · subst hne
      have hc : Calls P 235 #[.slice (some ⟨blk, off, none⟩) d.size cap, .int .i64 ((m : Int) - (i : Int)), .int .i64 m, .int .i64 i, .func (.func g) #[] cb] wr fun e w' => e = .returned (.tuple #[]) ∧ ∃ r, SWK enc k w0 blk off r w' ∧ Stb.Via dk (Stb.swI (m - i) m i) r ∧ PIn (m - i) (m + i) dk r := by
        have := swapRange_gen LL.out enc g cb blk off cap (m - i) m i d0 dk w0 wr R (by omega) S1.out (by omega) (by omega) (by omega)
        rwa [hds, show ((m - i : Nat) : Int) = (m : Int) - (i : Int) by omega] at this
      have rr : IntKind.i64.wrap ((m : Int) - (i : Int)) = (m : Int) - (i : Int) := by rw [IntKind.wrap_i64]; omega
      have hb1 : ((i : Int) != (i : Int)) = false := by simp
      have hb2 : ((i : Int) == (i : Int)) = true := by simp
      go_wp2_with (go_at_fn 235; refine hc.mono ?_; rintro e w1 ⟨rfl, r, hS, hV, hP⟩)
      go_end0
      exact ⟨rfl, r, hS, rest_same HR.out hV (by omega) (by omega), HP.out.trans hP (by omega) (by omega) hb⟩
    · by_cases hlt : j < i
      · have hc : Calls P 235 #[.slice (some ⟨blk, off, none⟩) d.size cap, .int .i64 ((m : Int) - (i : Int)), .int .i64 m, .int .i64 j, .func (.func g) #[] cb] wr fun e w' => e = .returned (.tuple #[]) ∧ ∃ r, SWK enc k w0 blk off r w' ∧ Stb.Via dk (Stb.swI (m - i) m j) r ∧ PIn (m - i) (m + j) dk r := by
          have := swapRange_gen LL.out enc g cb blk off cap (m - i) m j d0 dk w0 wr R (by omega) S1.out (by omega) (by omega) (by omega)
          rwa [hds, show ((m - i : Nat) : Int) = (m : Int) - (i : Int) by omega] at this
        have rr : IntKind.i64.wrap ((m : Int) - (i : Int)) = (m : Int) - (i : Int) := by rw [IntKind.wrap_i64]; omega
        have r3 : IntKind.i64.wrap ((i : Int) - (j : Int)) = ((i - j : Nat) : Int) := by rw [IntKind.wrap_i64]; omega
        have hnz : ¬ (i : Int) = (j : Int) := by omega
        have hlz : (j : Int) < (i : Int) := by omega
        go_wp2_with (go_at_fn 235; refine hc.mono ?_; rintro e w1 ⟨rfl, r, hS, hV, hP⟩)
        go_roundg (i - j + j)
        case measure => omega
        case rel =>
          refine ⟨i - j, j, r, ?_, rfl, by omega, hj0, by omega, hjb, Nat.le_refl _, by rw [hV.1]; exact hds, hS, rest_right HR.out hV (by omega) hlt (by omega), HP.out.trans hP (by omega) (by omega) hb⟩
          first | rfl | (congr 1; omega)
      · have hc : Calls P 235 #[.slice (some ⟨blk, off, none⟩) d.size cap, .int .i64 ((m : Int) - (i : Int)), .int .i64 ((m : Int) + (j : Int) - (i : Int)), .int .i64 i, .func (.func g) #[] cb] wr fun e w' => e = .returned (.tuple #[]) ∧ ∃ r, SWK enc k w0 blk off r w' ∧ Stb.Via dk (Stb.swI (m - i) (m + j - i) i) r ∧ PIn (m - i) (m + j - i + i) dk r := by
          have := swapRange_gen LL.out enc g cb blk off cap (m - i) (m + j - i) i d0 dk w0 wr R (by omega) S1.out (by omega) (by omega) (by omega)
          rwa [hds, show ((m - i : Nat) : Int) = (m : Int) - (i : Int) by omega, show ((m + j - i : Nat) : Int) = (m : Int) + (j : Int) - (i : Int) by omega] at this
        have rr : IntKind.i64.wrap ((m : Int) - (i : Int)) = (m : Int) - (i : Int) := by rw [IntKind.wrap_i64]; omega
        have r4 : IntKind.i64.wrap ((m : Int) + (j : Int)) = (m : Int) + (j : Int) := by rw [IntKind.wrap_i64]; omega
        have r5 : IntKind.i64.wrap ((m : Int) + (j : Int) - (i : Int)) = (m : Int) + (j : Int) - (i : Int) := by rw [IntKind.wrap_i64]; omega
        have r3 : IntKind.i64.wrap ((j : Int) - (i : Int)) = ((j - i : Nat) : Int) := by rw [IntKind.wrap_i64]; omega
        have hnz : ¬ (i : Int) = (j : Int) := by omega
        have hlz : ¬ (j : Int) < (i : Int) := by omega
        go_wp2_with (go_at_fn 235; refine hc.mono ?_; rintro e w1 ⟨rfl, r, hS, hV, hP⟩)
        go_roundg (i + (j - i))
        case measure => omega
        case rel =>
          refine ⟨i, j - i, r, rfl, ?_, hi0, by omega, hia, by omega, Nat.le_refl _, by rw [hV.1]; exact hds, hS, rest_left HR.out hV (by omega) (by omega) (by omega), HP.out.trans hP (by omega) (by omega) hb⟩
          first | rfl | (congr 1; omega)

end Go.Proofs.YtidkpalckafgkaaGreatDoor
