/- The stable sort's walks: all merges, and the sort of blocks that are merged, at elements of k cells; what it makes is the one list that is sorted and stable. -/
import Derived.Test.YtidkpalckafgkaaGreatDoorS5A
import Derived.Test.YtidkpalckafgkaaGreatDoorS5B
namespace Go.Proofs.YtidkpalckafgkaaGreatDoor
open Go Go.Shelf Go.RowKit Go.Lib Go.Sort
variable {P : Program}

theorem sym_all {α : Type} [Inhabited α] {k : Nat} (L : PF P k) (enc : α → List Value) (cf : α → α → Int) (ltR : α → α → Bool) (PL PR : α → Prop) (hO : SWO ltR) (ag : ∀ l r, PL l → PR r → ltOf cf r l = ltR r l) (g : Nat) (cb : Array Value) (blk off cap size : Nat) (d0 : Array α) (w0 : World)
    (eg : ∀ args w, (callFunc g args).run P w = .ok (.enter g args) w) (hcmp : CmpLays P g cb enc k cf blk off size w0)
    (R : RowK enc k w0 blk off d0) (hs : d0.size = size) (hsz : size < 4611686018427387904) : ∀ (G a m b : Nat) (d : Array α) (w : World), b - a < G → d.size = size → SWK enc k w0 blk off d w → Stb.Two ltR PL PR d a m b → a < m → m < b → b ≤ size →
    Calls P 202 #[.slice (some ⟨blk, off, none⟩) size cap, .int .i64 a, .int .i64 m, .int .i64 b, .func (.func g) #[] cb] w fun e w' => e = .returned (.tuple #[]) ∧ ∃ r, SWK enc k w0 blk off r w' ∧ Stb.Done ltR d a b r ∧ PIn a b d r := by
  intro G
  induction G with
  | zero => intro a m b d w h; omega
  | succ G ih =>
    intro a m b d w hG hds S T ham hmb hb
    by_cases h1 : m = a + 1
    · subst h1
      have := sym_left L enc cf ltR PL PR hO ag g cb blk off cap a b d0 d w0 w eg (by rw [hds]; exact hcmp) R (by omega) S T hmb (by omega) (by omega)
      rwa [hds] at this
    · by_cases h2 : b = m + 1
      · subst h2
        have := sym_right L enc cf ltR PL PR hO ag g cb blk off cap a m d0 d w0 w eg (by rw [hds]; exact hcmp) R (by omega) S T (by omega) (by omega) (by omega)
        rwa [hds] at this
      · by_cases h3 : (a + b) / 2 < m
        · exact sym_halfA L enc cf ltR PL PR hO ag g cb blk off cap a m b ((a + b) / 2) size G d0 d w0 w eg hcmp R hs hds S T (by omega) (by omega) hb hsz (by omega) (by omega) h3 (by omega) ih
        · exact sym_halfB L enc cf ltR PL PR hO ag g cb blk off cap a m b ((a + b) / 2) size G d0 d w0 w eg hcmp R hs hds S T (by omega) (by omega) hb hsz (by omega) (by omega) (by omega) (by omega) ih

variable {β : Type} [Inhabited β]
/-- Elements with their places: they lie as they would without. -/
def encZ (enc : β → List Value) (x : β × Nat) : List Value := enc x.1
def cfZ (cf : β → β → Int) (x y : β × Nat) : Int := cf x.1 y.1
omit [Inhabited β] in
theorem ltOf_cfZ (cf : β → β → Int) : ltOf (cfZ cf) = Stb.fl (ltOf cf) := rfl

set_option maxHeartbeats 8000000 in
set_option maxRecDepth 1000000 in
theorem stable_gen {k : Nat} (L : PF P k) (enc : β → List Value) (cf : β → β → Int) (hO : SWO (ltOf cf)) (g : Nat) (cb : Array Value) (blk off cap size : Nat) (l : List β) (d0 : Array (β × Nat)) (w0 : World) (hd : d0 = l.zipIdx.toArray)
    (eg : ∀ args w, (callFunc g args).run P w = .ok (.enter g args) w) (hcmp : CmpLays P g cb (encZ enc) k (cfZ cf) blk off size w0)
    (R : RowK (encZ enc) k w0 blk off d0) (hs : d0.size = size) (hsz : size < 4611686018427387904)
    (hins : ∀ (a b : Nat) (d : Array (β × Nat)) (w : World), d.size = size → SWK (encZ enc) k w0 blk off d w → a ≤ b → b ≤ size →
      Calls P 201 #[.slice (some ⟨blk, off, none⟩) size cap, .int .i64 a, .int .i64 b, .func (.func g) #[] cb] w fun e w' => e = .returned (.tuple #[]) ∧ SWK (encZ enc) k w0 blk off (Sort.insertionSort (ltOf (cfZ cf)) d a b) w') :
    Calls P 172 #[.slice (some ⟨blk, off, none⟩) size cap, .int .i64 size, .func (.func g) #[] cb] w0 fun e w' => e = .returned (.tuple #[]) ∧ ∃ r, SWK (encZ enc) k w0 blk off r w' ∧ r.toList.map Prod.fst = Stb.insL (ltOf cf) l := by
  have mixed := L.mixed; have t0 := L.t0; have a0 := L.a0; have z0 := L.z0; have v0 := L.v0; have t3 := L.t3; have a3 := L.a3; have z3 := L.z3; have v3 := L.v3; have t4 := L.t4; have a4 := L.a4; have z4 := L.z4; have v4 := L.v4; have t40 := L.t40; have a40 := L.a40; have z40 := L.z40; have v40 := L.v40; have t151 := L.t151; have a151 := L.a151; have z151 := L.z151; have v151 := L.v151; have aE := L.aE; have zE := L.zE
  have FG := L.f172
  have e201 := L.e201
  have e202 := L.e202
  have hsw := Stb.tl_swo hO
  have SYM : Hid (∀ (c a m b : Nat) (d : Array (β × Nat)) (w : World), d.size = size → SWK (encZ enc) k w0 blk off d w → Stb.Two (Stb.tl (ltOf cf)) (fun x => x.2 < c) (fun x => c ≤ x.2) d a m b → a < m → m < b → b ≤ size →
      Calls P 202 #[.slice (some ⟨blk, off, none⟩) size cap, .int .i64 a, .int .i64 m, .int .i64 b, .func (.func g) #[] cb] w fun e w' => e = .returned (.tuple #[]) ∧ ∃ r, SWK (encZ enc) k w0 blk off r w' ∧ Stb.Done (Stb.tl (ltOf cf)) d a b r ∧ PIn a b d r) :=
    fun c a m b d w h1 h2 h3 h4 h5 h6 => sym_all L (encZ enc) (cfZ cf) (Stb.tl (ltOf cf)) _ _ hsw (fun l r q1 q2 => Stb.tl_across (lt := ltOf cf) c l r q1 q2) g cb blk off cap size d0 w0 eg hcmp R hs hsz (b - a + 1) a m b d w (by omega) h1 h2 h3 h4 h5 h6
  have INS : Hid (∀ (a b : Nat) (d : Array (β × Nat)) (w : World), d.size = size → SWK (encZ enc) k w0 blk off d w → a ≤ b → b ≤ size →
      Calls P 201 #[.slice (some ⟨blk, off, none⟩) size cap, .int .i64 a, .int .i64 b, .func (.func g) #[] cb] w fun e w' => e = .returned (.tuple #[]) ∧ SWK (encZ enc) k w0 blk off (Sort.insertionSort (ltOf (cfZ cf)) d a b) w') := hins
  have S0 : Aside (SWK (encZ enc) k w0 blk off d0 w0) := SWK.start R.hH
  have P0 : Hid (Stb.Ph1 (ltOf cf) size 0 d0) := Stb.ph1_start size d0 hs (fun x hx => by
    subst hd
    rw [getElem!_pos _ x (by omega)]
    simp)
  have Q0 : Hid (PermIn 0 size d0 d0) := Stb.perm_refl _ _ _
  have HO : Hid (SWO (ltOf cf)) := hO
  have HD : Hid (d0 = l.zipIdx.toArray) := hd
  clear hcmp L hins hsw hO hd
  go_enter FG, Tryz.ntmps172
  go_wp2
  go_loopg [7, 8] (size + 1) (fun kx s7 s8 wr => ∃ (a : Nat) (dk : Array (β × Nat)), s7 = .int .i64 a ∧ s8 = .int .i64 ((a : Int) + 20) ∧ a ≤ size ∧ size - a ≤ kx ∧ dk.size = size ∧ Aside (SWK (encZ enc) k w0 blk off dk wr) ∧ Hid (Stb.Ph1 (ltOf cf) size a dk) ∧ Hid (PermIn 0 size d0 dk))
  case atStart => exact ⟨0, d0, rfl, by first | rfl | go_num, Nat.zero_le _, by omega, hs, S0, P0, Q0⟩
  case round =>
    clear S0 P0 Q0
    obtain ⟨a, dk, rfl, rfl, han, hkx, hds, S1, HP, HQ⟩ := hrel
    by_cases hlt : a + 20 ≤ size
    · have hltz : (a : Int) + 20 ≤ (size : Int) := by omega
      have hc := INS.out a (a + 20) dk wr hds S1.out (by omega) hlt
      rw [show ((a + 20 : Nat) : Int) = (a : Int) + 20 by omega] at hc
      obtain ⟨g1, g2⟩ := Stb.ph1_step HO.out HP.out hlt
      rw [← ltOf_cfZ] at g1 g2
      have hz : (Sort.insertionSort (ltOf (cfZ cf)) dk a (a + 20)).size = size := g1.1
      have G1 : Hid (Stb.Ph1 (ltOf cf) size (a + 20) (Sort.insertionSort (ltOf (cfZ cf)) dk a (a + 20))) := g1
      have G2 : Hid (PermIn 0 size d0 (Sort.insertionSort (ltOf (cfZ cf)) dk a (a + 20))) := Stb.perm_trans HQ.out g2
      clear g1 g2 HP HQ S1
      generalize Sort.insertionSort (ltOf (cfZ cf)) dk a (a + 20) = r at hc hz G1 G2
      go_wp2_with (go_at_fn 201; refine hc.mono ?_; rintro e w1 ⟨rfl, hS1⟩)
      go_roundg (size - (a + 20))
      case measure => omega
      case rel => exact ⟨a + 20, r, by first | rfl | go_num, by first | rfl | go_num | (congr 1; omega), hlt, Nat.le_refl _, hz, hS1, G1, G2⟩
    · have hltz : ¬ (a : Int) + 20 ≤ (size : Int) := by omega
      have hc := INS.out a size dk wr hds S1.out han (Nat.le_refl _)
      obtain ⟨g1, g2⟩ := Stb.ph1_end HO.out HP.out (by omega)
      rw [← ltOf_cfZ] at g1 g2
      have hz : (Sort.insertionSort (ltOf (cfZ cf)) dk a size).size = size := g1.1
      have G1 : Hid (Stb.Ph (ltOf cf) size 20 (Sort.insertionSort (ltOf (cfZ cf)) dk a size)) := g1
      have G2 : Hid (PermIn 0 size d0 (Sort.insertionSort (ltOf (cfZ cf)) dk a size)) := Stb.perm_trans HQ.out g2
      clear g1 g2 HP HQ S1
      generalize Sort.insertionSort (ltOf (cfZ cf)) dk a size = r at hc hz G1 G2
      go_wp2_with (go_at_fn 201; refine hc.mono ?_; rintro e w1 ⟨rfl, hS1⟩)
      have S1 : Aside (SWK (encZ enc) k w0 blk off r w1) := hS1
      clear hc hS1 hkx hlt hltz hds
      go_loopg [6] (size + 1) (fun kx s6 wr => ∃ (bs : Nat) (dk : Array (β × Nat)), s6 = .int .i64 bs ∧ 20 ≤ bs ∧ bs ≤ 2 * size + 20 ∧ size - bs ≤ kx ∧ dk.size = size ∧ Aside (SWK (encZ enc) k w0 blk off dk wr) ∧ Hid (Stb.Ph (ltOf cf) size bs dk) ∧ Hid (PermIn 0 size d0 dk))
      case atStart => exact ⟨20, r, rfl, Nat.le_refl _, by omega, by omega, hz, S1, G1, G2⟩
      case round =>
        clear S1 G1 G2 hz
        obtain ⟨bs, dk, rfl, hbs, hbb, hkx, hds, S1, HP, HQ⟩ := hrel
        by_cases hlt : bs < size
        · have hltz : (bs : Int) < (size : Int) := by omega
          have P2 : Hid (Stb.Ph2 (ltOf cf) size bs 0 dk) := Stb.ph2_start HP.out
          go_wp2_with fail
          go_loopg [7, 8] (size + 1) (fun kx s7 s8 wr => ∃ (a : Nat) (dk : Array (β × Nat)), s7 = .int .i64 a ∧ s8 = .int .i64 ((a : Int) + 2 * (bs : Int)) ∧ a ≤ size ∧ size - a ≤ kx ∧ dk.size = size ∧ Aside (SWK (encZ enc) k w0 blk off dk wr) ∧ Hid (Stb.Ph2 (ltOf cf) size bs a dk) ∧ Hid (PermIn 0 size d0 dk))
          case atStart => exact ⟨0, dk, rfl, by first | rfl | go_num | (congr 1; omega), Nat.zero_le _, by omega, hds, S1, P2, HQ⟩
          case round =>
            clear S1 P2 HP HQ hds
            obtain ⟨a, dk, rfl, rfl, han, hka, hds, S1, HP, HQ⟩ := hrel
            by_cases hle : a + 2 * bs ≤ size
            · have hlez : (a : Int) + 2 * (bs : Int) ≤ (size : Int) := by omega
              obtain ⟨u1, u2⟩ := Stb.ph2_two HP.out (by omega) (b := a + 2 * bs) (by omega) (by omega)
              have hc := SYM.out (a + bs) a (a + bs) (a + 2 * bs) dk wr hds S1.out (Stb.good_two u1 u2) (by omega) (by omega) hle
              rw [show ((a + 2 * bs : Nat) : Int) = (a : Int) + 2 * (bs : Int) by omega, show ((a + bs : Nat) : Int) = (a : Int) + (bs : Int) by omega] at hc
              clear u1 u2
              go_wp2_with (go_at_fn 202; refine hc.mono ?_; rintro e w2 ⟨rfl, r2, hS2, hD2, hP2⟩)
              go_roundg (size - (a + 2 * bs))
              case measure => omega
              case rel => exact ⟨a + 2 * bs, r2, by first | rfl | go_num | (congr 1; omega), by first | rfl | go_num | (congr 1; omega), hle, Nat.le_refl _, by rw [hD2.1.1]; exact hds, hS2, Stb.ph2_step HP.out (by omega) hle hD2, Stb.perm_trans HQ.out (hP2 0 size (Nat.zero_le _) hle (by omega))⟩
            · have hlez : ¬ (a : Int) + 2 * (bs : Int) ≤ (size : Int) := by omega
              by_cases hm : a + bs < size
              · have hmz : (a : Int) + (bs : Int) < (size : Int) := by omega
                obtain ⟨u1, u2⟩ := Stb.ph2_two HP.out (by omega) (b := size) (by omega) (by omega)
                have hc := SYM.out (a + bs) a (a + bs) size dk wr hds S1.out (Stb.good_two u1 u2) (by omega) (by omega) (Nat.le_refl _)
                rw [show ((a + bs : Nat) : Int) = (a : Int) + (bs : Int) by omega] at hc
                clear u1 u2
                go_wp2_with (go_at_fn 202; refine hc.mono ?_; rintro e w2 ⟨rfl, r2, hS2, hD2, hP2⟩)
                go_roundg (size - 2 * bs)
                case measure => omega
                case rel => exact ⟨2 * bs, r2, by first | rfl | go_num | (congr 1; omega), by omega, by omega, Nat.le_refl _, by rw [hD2.1.1]; exact hds, hS2, Stb.ph2_end HP.out (by omega) (by omega) (Or.inl ⟨hm, hD2⟩), Stb.perm_trans HQ.out (hP2 0 size (Nat.zero_le _) (Nat.le_refl _) (by omega))⟩
              · have hmz : ¬ (a : Int) + (bs : Int) < (size : Int) := by omega
                go_wp2
                go_roundg (size - 2 * bs)
                case measure => omega
                case rel => exact ⟨2 * bs, dk, by first | rfl | go_num | (congr 1; omega), by omega, by omega, Nat.le_refl _, hds, S1, Stb.ph2_end HP.out (by omega) (by omega) (Or.inr ⟨by omega, rfl⟩), HQ⟩
        · have hltz : ¬ (bs : Int) < (size : Int) := by omega
          go_wp2
          go_end0
          have hHD := HD.out
          refine ⟨rfl, dk, S1.out, Stb.stable_eq HO.out l dk ?_ ?_⟩
          · have := HQ.out; rw [← hs, hHD] at this; exact this
          · have := Stb.ph_sorted HP.out (by omega); rw [← hs, hHD] at this; exact this

end Go.Proofs.YtidkpalckafgkaaGreatDoor
