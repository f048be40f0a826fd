/- The stable sort's walks: exchanges of two ranges, the turning of two blocks, at elements of k cells, over what they take of the program. -/
import Derived.Test.YtidkpalckafgkaaGreatDoorS1
import Derived.Test.YtidkpalckafgkaaGreatDoorChecked
import Derived.Shelf.SlSortCmp.KitK
import Derived.Sort.WalkB2
import Derived.Sort.WalkB12
import Derived.Deep.LoopGhost
namespace Go.Proofs.YtidkpalckafgkaaGreatDoor
open Go Go.Shelf Go.RowKit Go.Lib Go.Sort

/-- What these walks take of the program. -/
structure PF (P : Program) (k : Nat) : Prop where
  mixed : P.follows .mixedOrders = true
  t0 : P.underlying 0 = some (TypeDesc.tuple #[])
  a0 : ∀ w, (isAgg 0).run P w = .ok false w
  z0 : ∀ w, (Go.sizeOf 0).run P w = .ok 1 w
  v0 : ∀ w, (zeroValue 0).run P w = .ok (Value.tuple #[]) w
  t3 : P.underlying 3 = some (TypeDesc.int IntKind.i64)
  a3 : ∀ w, (isAgg 3).run P w = .ok false w
  z3 : ∀ w, (Go.sizeOf 3).run P w = .ok 1 w
  v3 : ∀ w, (zeroValue 3).run P w = .ok (Value.int IntKind.i64 0) w
  t4 : P.underlying 4 = some (TypeDesc.bool)
  a4 : ∀ w, (isAgg 4).run P w = .ok false w
  z4 : ∀ w, (Go.sizeOf 4).run P w = .ok 1 w
  v4 : ∀ w, (zeroValue 4).run P w = .ok (Value.bool false) w
  t126 : P.underlying 126 = some (TypeDesc.int IntKind.u64)
  a126 : ∀ w, (isAgg 126).run P w = .ok false w
  z126 : ∀ w, (Go.sizeOf 126).run P w = .ok 1 w
  v126 : ∀ w, (zeroValue 126).run P w = .ok (Value.int IntKind.u64 0) w
  t40 : P.underlying 40 = some (TypeDesc.slice 50)
  a40 : ∀ w, (isAgg 40).run P w = .ok false w
  z40 : ∀ w, (Go.sizeOf 40).run P w = .ok 1 w
  v40 : ∀ w, (zeroValue 40).run P w = .ok (Value.slice none 0 0) w
  t151 : P.underlying 151 = some (TypeDesc.func #[50, 50] #[3] false)
  a151 : ∀ w, (isAgg 151).run P w = .ok false w
  z151 : ∀ w, (Go.sizeOf 151).run P w = .ok 1 w
  v151 : ∀ w, (zeroValue 151).run P w = .ok (Value.nilFunc) w
  aE : ∀ w, (isAgg 50).run P w = .ok true w
  zE : ∀ w, (Go.sizeOf 50).run P w = .ok k w
  f235 : P.funcs[235]? = some Tryz.f235
  f227 : P.funcs[227]? = some Tryz.f227
  f202 : P.funcs[202]? = some Tryz.f202
  f172 : P.funcs[172]? = some Tryz.f172
  e235 : ∀ args w, (callFunc 235 args).run P w = .ok (.enter 235 args) w
  e227 : ∀ args w, (callFunc 227 args).run P w = .ok (.enter 227 args) w
  e202 : ∀ args w, (callFunc 202 args).run P w = .ok (.enter 202 args) w
  e201 : ∀ args w, (callFunc 201 args).run P w = .ok (.enter 201 args) w

set_option maxRecDepth 100000 in
theorem pf : PF Tryz.prog 7 where
  mixed := by kernel_rfl
  t0 := by kernel_rfl
  a0 := fun w => by kernel_rfl
  z0 := fun w => by kernel_rfl
  v0 := fun w => by kernel_rfl
  t3 := by kernel_rfl
  a3 := fun w => by kernel_rfl
  z3 := fun w => by kernel_rfl
  v3 := fun w => by kernel_rfl
  t4 := by kernel_rfl
  a4 := fun w => by kernel_rfl
  z4 := fun w => by kernel_rfl
  v4 := fun w => by kernel_rfl
  t126 := by kernel_rfl
  a126 := fun w => by kernel_rfl
  z126 := fun w => by kernel_rfl
  v126 := fun w => by kernel_rfl
  t40 := by kernel_rfl
  a40 := fun w => by kernel_rfl
  z40 := fun w => by kernel_rfl
  v40 := fun w => by kernel_rfl
  t151 := by kernel_rfl
  a151 := fun w => by kernel_rfl
  z151 := fun w => by kernel_rfl
  v151 := fun w => by kernel_rfl
  aE := fun w => by kernel_rfl
  zE := fun w => by kernel_rfl
  f235 := Tryz.func235
  f227 := Tryz.func227
  f202 := Tryz.func202
  f172 := Tryz.func172
  e235 := enters_of Tryz.func235 (by kernel_rfl) rfl
  e227 := enters_of Tryz.func227 (by kernel_rfl) rfl
  e202 := enters_of Tryz.func202 (by kernel_rfl) rfl
  e201 := enters_of Tryz.func201 (by kernel_rfl) rfl

variable {P : Program} {α : Type} [Inhabited α]

/-- Permuted within all bounds that hold these. -/
def PIn (lo hi : Nat) (d r : Array α) : Prop := ∀ a b, a ≤ lo → hi ≤ b → b ≤ d.size → PermIn a b d r
theorem PIn.refl (lo hi : Nat) (d : Array α) : PIn lo hi d d := fun a b _ _ _ => Stb.perm_refl a b d
theorem PIn.size {lo hi : Nat} {d r : Array α} (h : PIn lo hi d r) (hh : hi ≤ d.size) : r.size = d.size := (h lo hi (Nat.le_refl _) (Nat.le_refl _) hh).1
theorem PIn.swp {lo hi : Nat} {d r : Array α} (h : PIn lo hi d r) (i j : Nat) (h1 : lo ≤ i) (h2 : i < hi) (h3 : lo ≤ j) (h4 : j < hi) (hh : hi ≤ d.size) : PIn lo hi d (swp r i j) := fun a b ha hb hs =>
  Stb.perm_trans (h a b ha hb hs) (Stb.perm_swp r a b i j (by omega) (by omega) (by omega) (by omega) (by rw [h.size hh]; exact hs))
theorem PIn.trans {lo hi lo' hi' : Nat} {d r s : Array α} (h : PIn lo hi d r) (k : PIn lo' hi' r s) (h1 : lo ≤ lo') (h2 : hi' ≤ hi) (hh : hi ≤ d.size) : PIn lo hi d s := fun a b ha hb hs =>
  Stb.perm_trans (h a b ha hb hs) (k a b (by omega) (by omega) (by rw [h.size hh]; exact hs))

set_option maxHeartbeats 4000000 in
set_option maxRecDepth 1000000 in
theorem swapRange_gen {k : Nat} (L : PF P k) (enc : α → List Value) (g : Nat) (cb : Array Value) (blk off cap a b n : Nat) (d0 d : Array α) (w0 w : World)
    (R : RowK enc k w0 blk off d0) (hs : d0.size = d.size) (S : SWK enc k w0 blk off d w) (hab : a + n ≤ b) (hb : b + n ≤ d.size) (hsz : d.size < 4611686018427387904) :
    Calls P 235 #[.slice (some ⟨blk, off, none⟩) d.size cap, .int .i64 a, .int .i64 b, .int .i64 n, .func (.func g) #[] cb] w fun e w' => e = .returned (.tuple #[]) ∧ ∃ r, SWK enc k w0 blk off r w' ∧ Stb.Via d (Stb.swI a b n) r ∧ PIn a (b + n) d r := by
  have mixed := L.mixed; have t0 := L.t0; have a0 := L.a0; have z0 := L.z0; have v0 := L.v0; have t3 := L.t3; have a3 := L.a3; have z3 := L.z3; have v3 := L.v3; have t4 := L.t4; have a4 := L.a4; have z4 := L.z4; have v4 := L.v4; have t40 := L.t40; have a40 := L.a40; have z40 := L.z40; have v40 := L.v40; have t151 := L.t151; have a151 := L.a151; have z151 := L.z151; have v151 := L.v151; have aE := L.aE; have zE := L.zE
  have FG := L.f235
  have S0 : Aside (SWK enc k w0 blk off d w) := S
  clear S L
  go_enter FG, Tryz.ntmps235
  go_wp2
  go_loopg [10] n (fun kx s10 wr => ∃ (i : Nat) (dk : Array α), s10 = .int .i64 i ∧ i ≤ n ∧ n - i ≤ kx ∧ dk.size = d.size ∧ Aside (SWK enc k w0 blk off dk wr) ∧ Hid (Stb.Via d (Stb.swI a b i) dk) ∧ Hid (PIn a (b + n) d dk))
  case atStart => exact ⟨0, d, rfl, Nat.zero_le _, by omega, rfl, S0, (Stb.via_refl d).congr (fun x _ => (Stb.swI_zero a b x).symm), PIn.refl _ _ _⟩
  case round =>
    clear S0
    obtain ⟨i, dk, rfl, hin, hkx, hds, S1, HV, HP⟩ := hrel
    by_cases hlt : i < n
    · have hltz : (i : Int) < (n : Int) := by omega
      go_wp2_with fail
      have ea : ((a : Int) + (i : Int)).toNat = a + i := by omega
      have pa : (0 : Int) ≤ (a : Int) + (i : Int) := by omega
      have ba : (a : Int) + (i : Int) < (d.size : Int) := by omega
      have ra : IntKind.i64.wrap ((a : Int) + (i : Int)) = (a : Int) + (i : Int) := by rw [IntKind.wrap_i64]; omega
      have ec : ((b : Int) + (i : Int)).toNat = b + i := by omega
      have pc : (0 : Int) ≤ (b : Int) + (i : Int) := by omega
      have bc : (b : Int) + (i : Int) < (d.size : Int) := by omega
      have rc : IntKind.i64.wrap ((b : Int) + (i : Int)) = (b : Int) + (i : Int) := by rw [IntKind.wrap_i64]; omega
      have S2 : Aside (SWK enc k w0 blk off (swp dk (a + i) (b + i)) ((wr.drew.setCells blk (off + (a + i) * k) (enc dk[b + i]!)).setCells blk (off + (b + i) * k) (enc dk[a + i]!))) := S1.out.swapped R (a + i) (b + i) (by omega) (by omega)
      have la := S1.out.ld1 R (by omega) P (a + i) (by omega)
      have lb := S1.out.ld1 R (by omega) P (b + i) (by omega)
      have sa := S1.out.st1 R (by omega) P (a + i) (by omega) dk[b + i]!
      have sb := S1.out.st2 R (by omega) P (a + i) (b + i) (by omega) (by omega) dk[b + i]! dk[a + i]!
      have na : (enc dk[a + i]!).length = k := R.hk _
      have nb : (enc dk[b + i]!).length = k := R.hk _
      have HV2 : Hid (Stb.Via d (Stb.swI a b (i + 1)) (swp dk (a + i) (b + i))) := by
        refine ((HV.out).trans (Stb.via_swp dk (a + i) (b + i) (by omega) (by omega)) (fun x hx => ?_)).congr (fun x _ => ?_)
        · split
          · omega
          · split <;> omega
        · exact Stb.swI_step a b i x (by omega)
      have HP2 : Hid (PIn a (b + n) d (swp dk (a + i) (b + i))) := HP.out.swp (a + i) (b + i) (by omega) (by omega) (by omega) (by omega) hb
      generalize enc dk[a + i]! = cI at S2 la sb na
      generalize enc dk[b + i]! = cJ at S2 lb sa sb nb
      clear S1 HV HP
      go_wp2_with fail
      go_big_region_o
      clear la lb sa sb
      generalize (wr.drew.setCells blk (off + (a + i) * k) cJ).setCells blk (off + (b + i) * k) cI = w2 at S2 ⊢
      go_wp2
      go_roundg (n - (i + 1))
      case measure => omega
      case rel => exact ⟨i + 1, swp dk (a + i) (b + i), by go_num, by omega, Nat.le_refl _, by rw [size_swp]; exact hds, S2, HV2, HP2⟩
    · have hltz : ¬ (i : Int) < (n : Int) := by omega
      have e : i = n := by omega
      subst e
      go_wp2
      go_end0
      exact ⟨rfl, dk, S1.out, HV.out, HP.out⟩

end Go.Proofs.YtidkpalckafgkaaGreatDoor
