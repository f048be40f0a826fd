/- Plain mathematics: a stable sort by blocks that are merged in place. No condition on the program. -/
import Derived.Sort.LotA
namespace Go.Proofs.YtehgpibngalhfaaGreatDoor
namespace Stb
open Go.Sort

section
variable {α : Type} [Inhabited α]

/-- Places a .. a+n and b .. b+n exchanged. -/
def swI (a b n x : Nat) : Nat := if a ≤ x ∧ x < a + n then x + (b - a) else if b ≤ x ∧ x < b + n then x - (b - a) else x
/-- Places lo .. m and m .. hi turned. -/
def rotI (lo m hi x : Nat) : Nat := if lo ≤ x ∧ x < hi then (if x < lo + (hi - m) then x + (m - lo) else x - (hi - m)) else x

/-- r is d, looked at through f. -/
def Via (d : Array α) (f : Nat → Nat) (r : Array α) : Prop := r.size = d.size ∧ ∀ x, x < d.size → r[x]! = d[f x]!

theorem via_refl (d : Array α) : Via d (fun x => x) d := ⟨rfl, fun _ _ => rfl⟩

theorem via_swp (d : Array α) (i j : Nat) (hi : i < d.size) (hj : j < d.size) : Via d (fun x => if x = j then i else if x = i then j else x) (swp d i j) := by
  refine ⟨size_swp d i j, fun x _ => ?_⟩
  rw [swp_get d hi hj x]
  by_cases h : x = j
  · simp only [if_pos h]
  · by_cases h' : x = i
    · simp only [if_neg h, if_pos h']
    · simp only [if_neg h, if_neg h']

theorem Via.trans {d r s : Array α} {f g : Nat → Nat} (h : Via d f r) (k : Via r g s) (hg : ∀ x, x < d.size → g x < d.size) : Via d (fun x => f (g x)) s := by
  refine ⟨k.1.trans h.1, fun x hx => ?_⟩
  rw [k.2 x (by rw [h.1]; exact hx), h.2 _ (hg x hx)]

theorem Via.congr {d r : Array α} {f g : Nat → Nat} (h : Via d f r) (e : ∀ x, x < d.size → f x = g x) : Via d g r :=
  ⟨h.1, fun x hx => by rw [h.2 x hx, e x hx]⟩

/-- One exchange more: places a+i and b+i. -/
theorem swI_step (a b i x : Nat) (h : a + (i + 1) ≤ b) : swI a b i (if x = b + i then a + i else if x = a + i then b + i else x) = swI a b (i + 1) x := by
  unfold swI
  by_cases h1 : x = b + i
  · rw [if_pos h1]
    repeat' split
    all_goals omega
  · rw [if_neg h1]
    by_cases h2 : x = a + i
    · rw [if_pos h2]
      repeat' split
      all_goals omega
    · rw [if_neg h2]
      repeat' split
      all_goals omega

theorem swI_zero (a b x : Nat) : swI a b 0 x = x := by
  unfold swI
  rw [if_neg (by omega), if_neg (by omega)]

theorem swI_lt (a b n x s : Nat) (hb : b + n ≤ s) (hx : x < s) : swI a b n x < s := by
  unfold swI
  split
  · omega
  · split <;> omega

theorem rotI_lt (lo m hi x s : Nat) (h1 : lo ≤ m) (h2 : m ≤ hi) (hb : hi ≤ s) (hx : x < s) : rotI lo m hi x < s := by
  unfold rotI
  split
  · split <;> omega
  · omega

/-- Turning what is left behind the exchange of the shorter right block. -/
theorem rot_right (m i j x : Nat) (hi : i ≤ m) (hj : j < i) : swI (m - i) m j (rotI (m - (i - j)) m (m + j) x) = rotI (m - i) m (m + j) x := by
  unfold rotI swI
  repeat' split
  all_goals omega

/-- Turning what is left behind the exchange of the shorter left block. -/
theorem rot_left (m i j x : Nat) (hi : i ≤ m) (hj : i < j) : swI (m - i) (m + j - i) i (rotI (m - i) m (m + (j - i)) x) = rotI (m - i) m (m + j) x := by
  unfold rotI swI
  repeat' split
  all_goals omega

/-- Two blocks of one length: their exchange is the turning. -/
theorem rot_same (m i x : Nat) (hi : i ≤ m) : swI (m - i) m i x = rotI (m - i) m (m + i) x := by
  unfold rotI swI
  repeat' split
  all_goals omega

/-- Nothing to turn. -/
theorem rot_none (lo m hi x : Nat) (h : lo = m ∨ hi = m) (h1 : lo ≤ m) (h2 : m ≤ hi) : rotI lo m hi x = x := by
  unfold rotI
  rcases h with rfl | rfl
  · split
    · split <;> omega
    · rfl
  · split
    · split <;> omega
    · rfl

/-! ### permutations within bounds -/
theorem perm_refl (a b : Nat) (d : Array α) : PermIn a b d d := permIn_refl d a b
theorem perm_trans {a b : Nat} {d r s : Array α} (h : PermIn a b d r) (k : PermIn a b r s) : PermIn a b d s := permIn_trans d r s a b h k
theorem perm_swp (d : Array α) (a b i j : Nat) (h1 : a ≤ i) (h2 : i < b) (h3 : a ≤ j) (h4 : j < b) (h5 : b ≤ d.size) : PermIn a b d (swp d i j) := swp_permIn d a b i j h1 h2 h3 h4 h5
theorem perm_all {d r : Array α} {a b : Nat} (p : α → Prop) (hb : b ≤ d.size) (h : PermIn a b d r) (hp : ∀ i, a ≤ i → i < b → p d[i]!) : ∀ i, a ≤ i → i < b → p r[i]! := permIn_all d r a b p hb h hp
theorem perm_mono {d r : Array α} {a b a' b' : Nat} (ha : a' ≤ a) (hb : b ≤ b') (hs : b' ≤ d.size) (h : PermIn a b d r) : PermIn a' b' d r := permIn_mono d r a b a' b' ha hb hs h

/-! ### merging -/
variable {lt ltR : α → α → Bool} {PL PR : α → Prop}

/-- What a merge is told: left and right in order; what is left and what is right; the two orders agree across. -/
structure Two (ltR : α → α → Bool) (PL PR : α → Prop) (d : Array α) (a m b : Nat) : Prop where
  sl : SortedIn ltR a m d
  sr : SortedIn ltR m b d
  pl : ∀ x, a ≤ x → x < m → PL d[x]!
  pr : ∀ x, m ≤ x → x < b → PR d[x]!

def Done (ltR : α → α → Bool) (d : Array α) (a b : Nat) (r : Array α) : Prop := PermIn a b d r ∧ SortedIn ltR a b r

/-- not greater, through a third -/
theorem le_trans' {γ : Type} {ltR : γ → γ → Bool} (hS : SWO ltR) {x y z : γ} (h1 : ltR y x = false) (h2 : ltR z y = false) : ltR z x = false := hS.ntrans _ _ _ h2 h1

theorem sorted_le (hS : SWO ltR) {d : Array α} {a b : Nat} (h : SortedIn ltR a b d) (i j : Nat) (h1 : a ≤ i) (h2 : i ≤ j) (h3 : j < b) : ltR d[j]! d[i]! = false := by
  by_cases e : i = j
  · subst e; exact hS.irrefl _
  · exact h i j h1 (by omega) h3

/-- One on the left: behind all that are less. -/
theorem one_left (hS : SWO ltR) (ag : ∀ l r, PL l → PR r → lt r l = ltR r l) {d r : Array α} {a b i : Nat} (hb : b ≤ d.size) (T : Two ltR PL PR d a (a + 1) b) (h1 : a + 1 ≤ i) (h2 : i ≤ b)
    (hl : ∀ y, a + 1 ≤ y → y < i → lt d[y]! d[a]! = true) (hr : ∀ y, i ≤ y → y < b → lt d[y]! d[a]! = false)
    (hv : Via d (fun x => if a ≤ x ∧ x < i - 1 then x + 1 else if x = i - 1 then a else x) r) : SortedIn ltR a b r := by
  have e : ∀ y, a + 1 ≤ y → y < b → lt d[y]! d[a]! = ltR d[y]! d[a]! := fun y h h' => ag _ _ (T.pl a (Nat.le_refl _) (by omega)) (T.pr y h h')
  have g1 : ∀ x, a ≤ x → x < i - 1 → r[x]! = d[x + 1]! := fun x h3 h4 => by
    have := hv.2 x (by omega)
    simp only at this
    rw [this, if_pos ⟨h3, h4⟩]
  have g2 : r[i - 1]! = d[a]! := by
    have := hv.2 (i - 1) (by omega)
    simp only at this
    rw [this, if_neg (by omega)]; simp
  have g3 : ∀ x, i ≤ x → x < b → r[x]! = d[x]! := fun x h3 h4 => by
    have := hv.2 x (by omega)
    simp only at this
    rw [this, if_neg (by omega), if_neg (by omega)]
  intro p q hp hq hqb
  by_cases c1 : q < i - 1
  · rw [g1 p (by omega) (by omega), g1 q (by omega) c1]; exact T.sr (p + 1) (q + 1) (by omega) (by omega) (by omega)
  · by_cases c2 : q = i - 1
    · rw [c2, g2, g1 p hp (by omega)]
      exact hS.asymmA (by rw [← e _ (by omega) (by omega)]; exact hl (p + 1) (by omega) (by omega))
    · rw [g3 q (by omega) hqb]
      by_cases c3 : p < i - 1
      · rw [g1 p hp c3]; exact T.sr (p + 1) q (by omega) (by omega) (by omega)
      · by_cases c4 : p = i - 1
        · rw [c4, g2, ← e _ (by omega) (by omega)]; exact hr q (by omega) (by omega)
        · rw [g3 p (by omega) (by omega)]; exact T.sr p q (by omega) (by omega) (by omega)

/-- One on the right: ahead of all that are greater. -/
theorem one_right (hS : SWO ltR) (ag : ∀ l r, PL l → PR r → lt r l = ltR r l) {d r : Array α} {a m i : Nat} (hb : m + 1 ≤ d.size) (T : Two ltR PL PR d a m (m + 1)) (h1 : a ≤ i) (h2 : i ≤ m)
    (hl : ∀ y, a ≤ y → y < i → lt d[m]! d[y]! = false) (hr : ∀ y, i ≤ y → y < m → lt d[m]! d[y]! = true)
    (hv : Via d (fun x => if i < x ∧ x ≤ m then x - 1 else if x = i then m else x) r) : SortedIn ltR a (m + 1) r := by
  have e : ∀ y, a ≤ y → y < m → lt d[m]! d[y]! = ltR d[m]! d[y]! := fun y h h' => ag _ _ (T.pl y h h') (T.pr m (Nat.le_refl _) (by omega))
  have g1 : ∀ x, i < x → x ≤ m → r[x]! = d[x - 1]! := fun x h3 h4 => by
    have := hv.2 x (by omega)
    simp only at this
    rw [this, if_pos ⟨h3, h4⟩]
  have g2 : r[i]! = d[m]! := by
    have := hv.2 i (by omega)
    simp only at this
    rw [this, if_neg (by omega)]; simp
  have g3 : ∀ x, x < i → r[x]! = d[x]! := fun x h3 => by
    have := hv.2 x (by omega)
    simp only at this
    rw [this, if_neg (by omega), if_neg (by omega)]
  intro p q hp hq hqb
  by_cases c1 : q < i
  · rw [g3 p (by omega), g3 q c1]; exact T.sl p q hp hq (by omega)
  · by_cases c2 : q = i
    · rw [c2, g2, g3 p (by omega), ← e p hp (by omega)]; exact hl p hp (by omega)
    · rw [g1 q (by omega) (by omega)]
      by_cases c3 : p < i
      · rw [g3 p c3]
        exact sorted_le hS T.sl p (q - 1) hp (by omega) (by omega)
      · by_cases c4 : p = i
        · rw [c4, g2]
          exact hS.asymmA (by rw [← e _ (by omega) (by omega)]; exact hr (q - 1) (by omega) (by omega))
        · rw [g1 p (by omega) (by omega)]; exact T.sl (p - 1) (q - 1) (by omega) (by omega) (by omega)

/-- The cut: what is ahead of it, and what is behind it. n = mid + m; from the place 'start' on the pairs (n - 1 - c, c) are less. -/
structure Cut (lt : α → α → Bool) (d : Array α) (a m b mid s0 r0 start : Nat) : Prop where
  lo : s0 ≤ start
  hi : start ≤ r0
  before : ∀ c, s0 ≤ c → c < start → lt d[mid + m - 1 - c]! d[c]! = false
  behind : ∀ c, start ≤ c → c < r0 → lt d[mid + m - 1 - c]! d[c]! = true

/-- Behind the turning: two merges that remain, and all of the first half not greater than all of the second one. -/
theorem cut_halves (hS : SWO ltR) (ag : ∀ l r, PL l → PR r → lt r l = ltR r l) {d r : Array α} {a m b mid s0 r0 start : Nat} (hb : b ≤ d.size) (T : Two ltR PL PR d a m b)
    (ham : a < m) (hmid1 : 2 * mid ≤ a + b) (hmid2 : a + b ≤ 2 * mid + 1)
    (h0 : (mid < m ∧ s0 = mid + m - b ∧ r0 = mid) ∨ (m ≤ mid ∧ s0 = a ∧ r0 = m))
    (C : Cut lt d a m b mid s0 r0 start) (hv : Via d (rotI start m (mid + m - start)) r) :
    Two ltR PL PR r a start mid ∧ Two ltR PL PR r mid (mid + m - start) b ∧ (∀ x y, a ≤ x → x < mid → mid ≤ y → y < b → ltR r[y]! r[x]! = false) := by
  have hlo := C.lo
  have hhi := C.hi
  have e : ∀ l y, a ≤ l → l < m → m ≤ y → y < b → lt d[y]! d[l]! = ltR d[y]! d[l]! := fun l y h1 h2 h3 h4 => ag _ _ (T.pl l h1 h2) (T.pr y h3 h4)
  have has : a ≤ start := by omega
  have hsm : start ≤ m := by omega
  have hem : m ≤ mid + m - start := by omega
  have heb : mid + m - start ≤ b := by omega
  have g1 : ∀ x, x < start → r[x]! = d[x]! := fun x hx => by
    rw [hv.2 x (by omega)]; unfold rotI; rw [if_neg (by omega)]
  have g2 : ∀ x, start ≤ x → x < mid → r[x]! = d[x + (m - start)]! := fun x h1 h2 => by
    rw [hv.2 x (by omega)]; unfold rotI; rw [if_pos (by omega), if_pos (by omega)]
  have g3 : ∀ x, mid ≤ x → x < mid + m - start → r[x]! = d[x - (mid - start)]! := fun x h1 h2 => by
    rw [hv.2 x (by omega)]; unfold rotI; rw [if_pos (by omega), if_neg (by omega)]; congr 1; omega
  have g4 : ∀ x, mid + m - start ≤ x → x < b → r[x]! = d[x]! := fun x h1 h2 => by
    rw [hv.2 x (by omega)]; unfold rotI; rw [if_neg (by omega)]
  -- what stands on the two sides of the cut
  have k1 : ∀ x y, a ≤ x → x < start → mid + m - start ≤ y → y < b → ltR d[y]! d[x]! = false := fun x y h1 h2 h3 h4 => by
    have hc : s0 < start := by omega
    have q := C.before (start - 1) (by omega) (by omega)
    rw [e _ _ (by omega) (by omega) (by omega) (by omega)] at q
    have q1 : ltR d[y]! d[mid + m - 1 - (start - 1)]! = false := sorted_le hS T.sr _ _ (by omega) (by omega) h4
    have q2 : ltR d[start - 1]! d[x]! = false := sorted_le hS T.sl _ _ h1 (by omega) (by omega)
    exact le_trans' hS q2 (le_trans' hS q q1)
  have k2 : ∀ x y, m ≤ x → x < mid + m - start → start ≤ y → y < m → ltR d[y]! d[x]! = false := fun x y h1 h2 h3 h4 => by
    have hc : start < r0 := by omega
    have q := C.behind start (Nat.le_refl _) hc
    rw [e _ _ (by omega) (by omega) (by omega) (by omega)] at q
    have q0 := hS.asymmA q
    have q1 : ltR d[mid + m - 1 - start]! d[x]! = false := sorted_le hS T.sr _ _ h1 (by omega) (by omega)
    have q2 : ltR d[y]! d[start]! = false := sorted_le hS T.sl _ _ (by omega) h3 h4
    exact le_trans' hS q1 (le_trans' hS q0 q2)
  refine ⟨⟨?_, ?_, ?_, ?_⟩, ⟨?_, ?_, ?_, ?_⟩, ?_⟩
  · intro p q h1 h2 h3; rw [g1 p (by omega), g1 q h3]; exact T.sl p q h1 h2 (by omega)
  · intro p q h1 h2 h3; rw [g2 p h1 (by omega), g2 q (by omega) h3]; exact T.sr _ _ (by omega) (by omega) (by omega)
  · intro x h1 h2; rw [g1 x h2]; exact T.pl x h1 (by omega)
  · intro x h1 h2; rw [g2 x h1 h2]; exact T.pr _ (by omega) (by omega)
  · intro p q h1 h2 h3; rw [g3 p h1 (by omega), g3 q (by omega) h3]; exact T.sl _ _ (by omega) (by omega) (by omega)
  · intro p q h1 h2 h3; rw [g4 p h1 (by omega), g4 q (by omega) h3]; exact T.sr _ _ (by omega) (by omega) (by omega)
  · intro x h1 h2; rw [g3 x h1 h2]; exact T.pl _ (by omega) (by omega)
  · intro x h1 h2; rw [g4 x h1 h2]; exact T.pr _ (by omega) (by omega)
  · intro x y h1 h2 h3 h4
    by_cases c1 : x < start
    · rw [g1 x c1]
      by_cases c2 : y < mid + m - start
      · rw [g3 y h3 c2]; exact T.sl _ _ h1 (by omega) (by omega)
      · rw [g4 y (by omega) h4]; exact k1 x y h1 c1 (by omega) h4
    · rw [g2 x (by omega) h2]
      by_cases c2 : y < mid + m - start
      · rw [g3 y h3 c2]; exact k2 _ _ (by omega) (by omega) (by omega) (by omega)
      · rw [g4 y (by omega) h4]; exact T.sr _ _ (by omega) (by omega) h4

/-- A part with nothing on one side is in order. -/
theorem two_none {d : Array α} {a m b : Nat} (T : Two ltR PL PR d a m b) (h : m ≤ a ∨ b ≤ m) : SortedIn ltR a b d := by
  intro p q h1 h2 h3
  rcases h with h | h
  · exact T.sr p q (by omega) h2 h3
  · exact T.sl p q h1 h2 (by omega)

/-- The two halves, each done, make the whole. -/
theorem halves_done {d r1 r2 r3 : Array α} {a mid b : Nat} (hb : b ≤ d.size) (ham : a ≤ mid) (hmb : mid ≤ b) (h0 : PermIn a b d r1)
    (hx : ∀ x y, a ≤ x → x < mid → mid ≤ y → y < b → ltR r1[y]! r1[x]! = false)
    (h1 : Done ltR r1 a mid r2) (h2 : Done ltR r2 mid b r3) : Done ltR d a b r3 := by
  have s1 : r1.size = d.size := h0.1
  have s2 : r2.size = r1.size := h1.1.1
  refine ⟨perm_trans h0 (perm_trans (perm_mono (Nat.le_refl _) hmb (by omega) h1.1) (perm_mono ham (Nat.le_refl _) (by omega) h2.1)), ?_⟩
  have f1 : ∀ x, a ≤ x → x < mid → r3[x]! = r2[x]! := fun x _ hx' => h2.1.2.1 x (Or.inl hx')
  have f2 : ∀ y, mid ≤ y → y < b → r2[y]! = r1[y]! := fun y hy _ => h1.1.2.1 y (Or.inr hy)
  intro p q hp hpq hq
  by_cases c1 : q < mid
  · rw [f1 p hp (by omega), f1 q (by omega) c1]; exact h1.2 p q hp hpq c1
  · by_cases c2 : p < mid
    · rw [f1 p hp c2]
      have key : ∀ y, mid ≤ y → y < b → ltR r3[y]! r2[p]! = false := by
        apply perm_all (fun v => ltR v r2[p]! = false) (by omega) h2.1
        intro y hy1 hy2
        rw [f2 y hy1 hy2]
        have key2 : ∀ x, a ≤ x → x < mid → ltR r1[y]! r2[x]! = false :=
          perm_all (fun v => ltR r1[y]! v = false) (by omega) h1.1 (fun x hx1 hx2 => hx x y hx1 hx2 hy1 hy2)
        exact key2 p hp c2
      exact key q (by omega) hq
    · exact h2.2 p q (by omega) hpq hq

end

end Stb
end Go.Proofs.YtehgpibngalhfaaGreatDoor
