/- Walks: the fixed fact with which each law begins. -/
import Derived.Test.YtfjbbaejeckonaaDoorK5
namespace Go.Proofs.YtfjbbaejeckonaaDoor
open Go Go.RowKit Tg Ky

def cpu : ByteArray := ⟨#[99, 112, 117]⟩
theorem g_k1 : kparse (⟨#[99, 112, 117, 123, 98, 61, 49, 44, 97, 61, 50, 125]⟩ : ByteArray).data.toList = ((⟨#[99, 112, 117]⟩, [aTag, bTag]), 0) := by kernel_rfl
theorem g_k2 : kmake ⟨#[99, 112, 117]⟩ [bTag, aTag] = ((⟨#[99, 112, 117]⟩, [aTag, bTag]), 0) := by kernel_rfl
theorem g_k3 : kparse (⟨#[99, 112, 117, 123, 125]⟩ : ByteArray).data.toList = (none0, 2) := by kernel_rfl
theorem g_k4 : kparse (⟨#[99, 112, 117]⟩ : ByteArray).data.toList = ((⟨#[99, 112, 117]⟩, []), 0) := by kernel_rfl
theorem g_t1 : ktextB (⟨#[99, 112, 117]⟩, [aTag, bTag]) = ⟨#[99, 112, 117, 123, 97, 61, 50, 44, 98, 61, 49, 125]⟩ := by kernel_rfl
theorem g_t2 : ktextB (⟨#[99, 112, 117]⟩, []) = ⟨#[99, 112, 117]⟩ := by kernel_rfl
theorem g_s1 : eqK (⟨#[99, 112, 117]⟩, [aTag, bTag]) (⟨#[99, 112, 117]⟩, [aTag, bTag]) = true := eqK_self _
theorem g_s2 : eqK (⟨#[99, 112, 117]⟩, [aTag, bTag]) (⟨#[99, 112, 117]⟩, []) = false := by kernel_rfl
theorem g_r1 : kright (⟨#[99, 112, 117]⟩, []) = true := by kernel_rfl
theorem g_r0 : kright none0 = false := by kernel_rfl
theorem KRow.open {w : World} {v : Value} {k : Key} (h : KRow w v k) : ∃ a c, v = .agg #[.string k.1, .slice a k.2.length c] ∧ TRow w (.slice a k.2.length c) k.2 := by
  obtain ⟨t, rfl, a, c, rfl, hc, hat⟩ := h
  exact ⟨a, c, rfl, a, c, rfl, hc, hat⟩
theorem row_tags2 (w : World) (x y : Tag) : TRow (w.alloc (.cells #[.string x.1, .string x.2, .string y.1, .string y.2] 40)) (.slice (some ⟨w.heap.size, 0, none⟩) 2 2) [x, y] := by
  refine ⟨_, 2, rfl, Nat.le_refl _, fun _ => ⟨_, 0, rfl, by simp, ?_⟩⟩
  intro i hi
  match i, hi with
  | 0, _ => constructor <;> simp
  | 1, _ => constructor <;> simp

set_option maxRecDepth 100000 in
set_option maxHeartbeats 1000000 in
theorem alive_any (w : World) (hE : Env w) :
    Calls Tryd.prog 8 #[] w fun e w' => e = .returned (.bool true) ∧ Below w.heap.size w w' := by
  go_enter Tryd.func8, Tryd.ntmps8
  go_wp2_with fail
  refine (kparse_any _ _ hE (by decide)).mono ?_
  rw [g_k1]
  rintro e w1 ⟨⟨_, rfl, hk1⟩, d1⟩
  obtain ⟨ad1, cp1, rfl, r1⟩ := hk1.open
  clear hk1
  dsimp only at r1
  go_wp2_with fail
  have hz1 : ∀ o, (w1.alloc o).heap.size = w1.heap.size + 1 := fun o => by simp
  have hrow := fun o => row_tags2 (w1.alloc o) bTag aTag
  simp only [hz1] at hrow
  have hrow : ∀ o, TRow ((w1.alloc o).alloc (.cells #[.string ⟨#[98]⟩, .string ⟨#[49]⟩, .string ⟨#[97]⟩, .string ⟨#[50]⟩] 40)) (.slice (some ⟨w1.heap.size + 1, 0, none⟩) 2 2) [bTag, aTag] := hrow
  refine (kmake_any ⟨#[99, 112, 117]⟩ _ [bTag, aTag] _ (hrow _) (by decide) (by decide) (by decide)).mono ?_
  rw [g_k2]
  rintro e w2 ⟨⟨_, rfl, hk2⟩, n2⟩
  obtain ⟨ad2, cp2, rfl, r2⟩ := hk2.open
  clear hk2
  dsimp only at r2
  clear hrow hz1
  have c0 := newC (i := 0) (belowA n2)
  have c1 := newC (i := 1) (belowA n2)
  simp at c0 c1
  have z1 : w1.heap.size < w2.heap.size := by have := n2.size; simp at this; omega
  have r1 := r1.on (belowA2 n2)
  have d2 := d1.trans ((belowA2 n2).mono d1.size)
  clear n2 d1
  go_wp2_with fail
  refine (kparse_any _ _ ((hE.go d2).alloc _) (by decide)).mono ?_
  rw [g_k3]
  rintro e w3 ⟨⟨_, rfl, hk3⟩, n3⟩
  obtain ⟨ad3, cp3, rfl, r3⟩ := hk3.open
  clear hk3
  have e0 := newC (i := 0) n3
  have e1 := newC (i := 1) n3
  simp at e0 e1
  have c0 := keepC (belowA n3) c0 z1
  have c1 := keepC (belowA n3) c1 z1
  have z2 : w2.heap.size < w3.heap.size := by have := n3.size; simp at this; omega
  have r1 := r1.on (belowA n3)
  have r2 := r2.on (belowA n3)
  have d3 := d2.trans ((belowA n3).mono d2.size)
  clear n3 d2 r3
  go_wp2_with fail
  refine (kparse_any _ _ ((hE.go d3).alloc _) (by decide)).mono ?_
  rw [g_k4]
  rintro e w4 ⟨⟨_, rfl, hk4⟩, n4⟩
  obtain ⟨ad4, cp4, rfl, r4⟩ := hk4.open
  clear hk4
  dsimp only at r4
  have c0 := keepC (belowA n4) c0 (by omega)
  have c1 := keepC (belowA n4) c1 (by omega)
  have e0 := keepC (belowA n4) e0 (by omega)
  have e1 := keepC (belowA n4) e1 (by omega)
  have z3 : w3.heap.size < w4.heap.size := by have := n4.size; simp at this; omega
  have r1 := r1.on (belowA n4)
  have r2 := r2.on (belowA n4)
  have d4 := d3.trans ((belowA n4).mono d3.size)
  clear n4 d3 hE
  have y1 : w1.heap.size < w4.heap.size := by omega
  have k0 := fun o => keepC (aBelow w4 o) c0 y1
  have k1 := fun o => keepC (aBelow w4 o) c1 y1
  go_wp2_with fail
  clear k0 k1 y1
  refine (ktext_any _ (⟨#[99, 112, 117]⟩, [aTag, bTag]) _ ⟨_, rfl, r1.on (aBelow _ _)⟩ (by decide) (by decide) (by decide) (by decide)).mono ?_
  rw [g_t1]
  rintro e w5 ⟨rfl, n5⟩
  have g0 := newC (i := 0) n5
  have g1 := newC (i := 1) n5
  simp at g0 g1
  have c0 := keepC (belowA n5) c0 (by omega)
  have c1 := keepC (belowA n5) c1 (by omega)
  have e0 := keepC (belowA n5) e0 (by omega)
  have e1 := keepC (belowA n5) e1 (by omega)
  have z4 : w4.heap.size < w5.heap.size := by have := n5.size; simp at this; omega
  have r1 := r1.on (belowA n5)
  have r2 := r2.on (belowA n5)
  have r4 := r4.on (belowA n5)
  have d5 := d4.trans ((belowA n5).mono d4.size)
  clear n5 d4
  go_wp2_with fail
  refine (ksame_any _ _ (⟨#[99, 112, 117]⟩, [aTag, bTag]) (⟨#[99, 112, 117]⟩, [aTag, bTag]) _ ⟨_, rfl, r1⟩ ⟨_, rfl, r2⟩ (by decide)).mono ?_
  rw [g_s1]
  rintro e w6 ⟨rfl, n6⟩
  have c0 := keepC n6 c0 (by omega)
  have c1 := keepC n6 c1 (by omega)
  have g0 := keepC n6 g0 (by omega)
  have g1 := keepC n6 g1 (by omega)
  have z5 := n6.size
  have r1 := r1.on n6
  have r4 := r4.on n6
  have d6 := d5.trans (n6.mono d5.size)
  clear n6 d5 e0 e1 r2
  go_wp2_with fail
  refine (ksame_any _ _ (⟨#[99, 112, 117]⟩, [aTag, bTag]) (⟨#[99, 112, 117]⟩, []) _ ⟨_, rfl, r1⟩ ⟨_, rfl, r4⟩ (by decide)).mono ?_
  rw [g_s2]
  rintro e w7 ⟨rfl, n7⟩
  have g0 := keepC n7 g0 (by omega)
  have g1 := keepC n7 g1 (by omega)
  have z6 := n7.size
  have r4 := r4.on n7
  have d7 := d6.trans (n7.mono d6.size)
  clear n7 d6 c0 c1 r1
  go_wp2_with fail
  refine (ktext_any _ (⟨#[99, 112, 117]⟩, []) _ ⟨_, rfl, r4⟩ (by decide) (by decide) (by decide) (by decide)).mono ?_
  rw [g_t2]
  rintro e w8 ⟨rfl, n8⟩
  have g0 := keepC n8 g0 (by omega)
  have g1 := keepC n8 g1 (by omega)
  have z7 := n8.size
  have r4 := r4.on n8
  have d8 := d7.trans (n8.mono d7.size)
  clear n8 d7
  go_wp2_with fail
  refine (kright_any _ (⟨#[99, 112, 117]⟩, []) _ ⟨_, rfl, r4⟩ (by decide) (by decide) (by decide)).mono ?_
  rw [g_r1]
  rintro e w9 ⟨rfl, n9⟩
  have d9 := d8.trans (n9.mono d8.size)
  clear n9 d8 g0 g1 r4
  go_wp2_with fail
  refine (kright_any _ none0 _ (none_row _) (by decide) (by decide) (by decide)).mono ?_
  rw [g_r0]
  rintro e w10 ⟨rfl, n10⟩
  have d10 := d9.trans (n10.mono d9.size)
  go_wp2_with fail
  go_ret
  exact ⟨rfl, d10⟩
end Go.Proofs.YtfjbbaejeckonaaDoor
