/- Walks of spread: lists of texts that lie in memory: the document's Same, and whether a list is more than is looked at. -/
import Derived.Test.YtpbmehigklikdaaW12
import Derived.Test.YtpbmehigklikdaaD0
namespace Go.Proofs.Ytpbmehigklikdaa.Sp
open Go Go.RowKit

def txtC (s : ByteArray) : List Value := [.string s]
theorem txtC_len (s : ByteArray) : (txtC s).length = 1 := rfl
theorem txtC_one (s : ByteArray) : ∀ x ∈ txtC s, x.oneCell' = true := by
  intro x hx
  simp [txtC] at hx
  subst hx
  rfl
abbrev TRow := GRow txtC 1
abbrev TAt := GAt txtC 1
abbrev TLies := GLies txtC 1
theorem t_at {w : World} {b o : Nat} {l : List ByteArray} (h : TLies w b o l) (i : Nat) (hi : i < l.length) : w.cell? ⟨b, o + i, none⟩ = some (.string l[i]) := by
  have := h i hi 0 _ rfl
  simpa using this

set_option maxHeartbeats 400000 in
theorem same_zero (a1 a2 : Option Addr) (c1 c2 : Nat) (w : World) :
    Calls Try.prog 15 #[.slice a1 0 c1, .slice a2 0 c2] w fun e w' => e = .returned (.bool true) ∧ w' = w := by
  go_enter Try.func15, Try.ntmps15
  go_wp2
  refine wp_loop_rounds 1 ?_
  rw [rounds_succ]
  go_wp2
  go_ret
  exact ⟨rfl, rfl⟩

set_option maxHeartbeats 400000 in
theorem same_cells (b1 o1 c1 b2 o2 c2 : Nat) (l : List ByteArray) (w : World) (h1 : TLies w b1 o1 l) (h2 : TLies w b2 o2 l) (hn : l.length ≤ 1000000) :
    Calls Try.prog 15 #[.slice (some ⟨b1, o1, none⟩) l.length c1, .slice (some ⟨b2, o2, none⟩) l.length c2] w fun e w' => e = .returned (.bool true) ∧ ∃ q, w' = w.drewN q := by
  have H1 := Lib.hid h1
  have H2 := Lib.hid h2
  clear h1 h2
  go_enter Try.func15, Try.ntmps15
  go_wp2
  go_loopw [5] (fun i wr => ∃ k nq : Nat, k ≤ l.length ∧ i = .int .i64 k ∧ wr = w.drewN nq) (fun i _ => l.length - (intOf i).toNat)
  case atStart => exact ⟨0, 0, Nat.zero_le _, rfl, rfl⟩
  case round =>
    obtain ⟨k, nq, hk, rfl, rfl⟩ := hrel
    by_cases hlt : k < l.length
    · have e1 := t_at H1.out k hlt
      have e2 := t_at H2.out k hlt
      have i1 : (k : Int) < (l.length : Int) := by omega
      have i2 : (0 : Int) ≤ (k : Int) := by omega
      go_wp2_with fail
      go_quiet (fail)
      go_wp2_with fail
      exact ⟨⟨k + 1, _, by omega, by go_num, rfl⟩, by simp [intOf]; omega⟩
    · go_wp2
      go_ret
      exact ⟨rfl, _, rfl⟩

theorem same_any (v1 v2 : Value) (l : List ByteArray) (w : World) (h1 : TRow w v1 l) (h2 : TRow w v2 l) (hn : l.length ≤ 1000000) :
    Calls Try.prog 15 #[v1, v2] w fun e w' => e = .returned (.bool true) ∧ Below w.heap.size w w' := by
  obtain ⟨a1, c1, rfl, hc1, hl1⟩ := h1
  obtain ⟨a2, c2, rfl, hc2, hl2⟩ := h2
  rcases List.eq_nil_or_concat l with hnil | ⟨l0, x0, hcons⟩
  · subst hnil
    exact (same_zero a1 a2 c1 c2 w).mono fun e w' ⟨he, hw⟩ => ⟨he, hw ▸ Below.refl _ _⟩
  · have hne : l ≠ [] := by rw [hcons]; simp
    obtain ⟨b1, o1, rfl, hb1, hL1⟩ := hl1 hne
    obtain ⟨b2, o2, rfl, hb2, hL2⟩ := hl2 hne
    exact (same_cells b1 o1 c1 b2 o2 c2 l w hL1 hL2 hn).mono fun e w' ⟨he, q, hw⟩ => ⟨he, hw ▸ ⟨rfl, rfl, rfl, Nat.le_refl _, fun _ _ => rfl⟩⟩

def big (s : ByteArray) : Bool := decide (200 < s.size)
def greatT (l : List ByteArray) : Bool := decide (100 < l.length) || l.any big
theorem greatT_not {l : List ByteArray} (h : greatT l = false) : l.length ≤ 100 ∧ ∀ s ∈ l, s.size ≤ 200 := by
  simp only [greatT, Bool.or_eq_false_iff, decide_eq_false_iff_not] at h
  refine ⟨by omega, fun s hs => ?_⟩
  have := List.any_eq_false.1 h.2 s hs
  simp only [big, decide_eq_true_eq] at this
  omega

set_option maxHeartbeats 400000 in
theorem great_zero (a : Option Addr) (c : Nat) (w : World) :
    Calls Try.prog 12 #[.slice a 0 c] w fun e w' => e = .returned (.bool false) ∧ w' = w := by
  go_enter Try.func12, Try.ntmps12
  go_wp2
  refine wp_loop_rounds 1 ?_
  rw [rounds_succ]
  go_wp2
  go_ret
  exact ⟨rfl, rfl⟩
set_option maxHeartbeats 400000 in
theorem great_long (a : Option Addr) (n c : Nat) (w : World) (hn : 100 < n) :
    Calls Try.prog 12 #[.slice a n c] w fun e w' => e = .returned (.bool true) ∧ w' = w := by
  go_enter Try.func12, Try.ntmps12
  go_wp2
  go_ret
  exact ⟨rfl, rfl⟩
theorem any_take (l : List ByteArray) (k : Nat) (h : k < l.length) : (l.take (k + 1)).any big = ((l.take k).any big || big l[k]) := by
  rw [List.take_succ_eq_append_getElem h, List.any_append]; simp

set_option maxHeartbeats 800000 in
theorem great_cells (b o c : Nat) (l : List ByteArray) (w : World) (hL : TLies w b o l) (hn : l.length ≤ 100) :
    Calls Try.prog 12 #[.slice (some ⟨b, o, none⟩) l.length c] w fun e w' => e = .returned (.bool (l.any big)) ∧ w' = w := by
  have HL := Lib.hid hL
  clear hL
  obtain ⟨A, HA⟩ : ∃ A, Hid (l.any big = A) := ⟨_, Lib.hid rfl⟩
  rw [HA.out]
  go_enter Try.func12, Try.ntmps12
  go_wp2
  go_loop [3] (fun i => ∃ k : Nat, k ≤ l.length ∧ i = .int .i64 k ∧ Hid ((l.take k).any big = false)) (fun i => l.length - (intOf i).toNat)
  case atStart => exact ⟨0, Nat.zero_le _, rfl, Lib.hid rfl⟩
  case round =>
    obtain ⟨k, hk, rfl, HT⟩ := hrel
    by_cases hlt : k < l.length
    · have e1 := t_at HL.out k hlt
      have HM := Lib.hid (List.getElem_mem hlt)
      have HK := Lib.hid (any_take l k hlt)
      have i1 : (k : Int) < (l.length : Int) := by omega
      have i2 : (0 : Int) ≤ (k : Int) := by omega
      obtain ⟨x, hx⟩ : ∃ x, l[k] = x := ⟨_, rfl⟩
      rw [hx] at e1 HM HK
      clear hx
      by_cases hs : 200 < x.size
      · have hA : A = true := by rw [← HA.out]; exact List.any_eq_true.2 ⟨x, HM.out, by simp [big]; omega⟩
        subst hA
        clear HA HM HK HT
        have hs' : (200 : Int) < (x.size : Int) := by omega
        go_wp2_with fail
        go_ret
        exact ⟨rfl, rfl⟩
      · have hz := HT.out
        have hz2 := HK.out
        have HT2 := Lib.hid (show (l.take (k + 1)).any big = false by rw [hz2, hz]; simp [big]; omega)
        clear HA HM HK HT hz hz2
        have hs' : ¬ (200 : Int) < (x.size : Int) := by omega
        go_wp2_with fail
        exact ⟨⟨k + 1, by omega, by go_num, HT2⟩, by simp [intOf]; omega⟩
    · have hke : k = l.length := by omega
      have hA : A = false := by rw [← HA.out]; have := HT.out; rw [hke, List.take_length] at this; exact this
      subst hA
      clear HA HT
      go_wp2_with fail
      go_ret
      exact ⟨rfl, rfl⟩
theorem great_any (v : Value) (l : List ByteArray) (w : World) (h : TRow w v l) :
    Calls Try.prog 12 #[v] w fun e w' => e = .returned (.bool (greatT l)) ∧ w' = w := by
  obtain ⟨a, c, rfl, hc, hl⟩ := h
  by_cases hn : 100 < l.length
  · have : greatT l = true := by simp [greatT, hn]
    rw [this]
    exact great_long a l.length c w hn
  · have e : greatT l = l.any big := by simp [greatT, hn]
    rw [e]
    rcases List.eq_nil_or_concat l with hnil | ⟨l0, x0, hcons⟩
    · subst hnil
      exact great_zero a c w
    · have hne : l ≠ [] := by rw [hcons]; simp
      obtain ⟨b, o, rfl, hb, hL⟩ := hl hne
      exact great_cells b o c l w hL (by omega)
end Go.Proofs.Ytpbmehigklikdaa.Sp
