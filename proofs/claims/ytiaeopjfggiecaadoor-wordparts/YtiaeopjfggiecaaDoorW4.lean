/- Walks: lists of texts that lie in memory: Same, Join of the document, and whether a list is more than is looked at. -/
import Derived.Test.YtiaeopjfggiecaaDoorW2
import Derived.BigQuiet
namespace Go.Proofs.YtiaeopjfggiecaaDoor
open Go Go.RowKit

/-- The value v is a slice that holds the texts l. -/
def Row (w : World) (v : Value) (l : List ByteArray) : Prop := ∃ a c, v = .slice a l.length c ∧ l.length ≤ c ∧ (l ≠ [] → ∃ b o, a = some ⟨b, o, none⟩ ∧ b < w.heap.size ∧ Lies w b o l)
theorem Row.on {w w1 : World} {v : Value} {l : List ByteArray} (h : Row w v l) (n : Below w.heap.size w w1) : Row w1 v l := by
  obtain ⟨a, c, hv, hc, hl⟩ := h
  refine ⟨a, c, hv, hc, fun hne => ?_⟩
  obtain ⟨b, o, ha, hb, hL⟩ := hl hne
  exact ⟨b, o, ha, Nat.lt_of_lt_of_le hb n.size, hL.on hb n⟩
theorem Lies.at {w : World} {b o : Nat} {l : List ByteArray} (h : Lies w b o l) (k : Nat) (hk : k < l.length) : w.cell? ⟨b, o + k, none⟩ = some (.string l[k]) := h k _ (List.getElem?_eq_getElem hk)

set_option maxHeartbeats 400000 in
theorem same_zero (a1 a2 : Option Addr) (c1 c2 : Nat) (w : World) :
    Calls Tryd.prog 13 #[.slice a1 0 c1, .slice a2 0 c2] w fun e w' => e = .returned (.bool true) ∧ w' = w := by
  go_enter Tryd.func13, Tryd.ntmps13
  go_wp2
  refine wp_loop_rounds 1 ?_
  rw [rounds_succ]
  go_wp2
  go_ret
  exact ⟨rfl, rfl⟩

set_option maxHeartbeats 400000 in
theorem same_cells (b1 o1 c1 b2 o2 c2 : Nat) (l : List ByteArray) (w : World) (h1 : Lies w b1 o1 l) (h2 : Lies w b2 o2 l) (hn : l.length ≤ 1000000) :
    Calls Tryd.prog 13 #[.slice (some ⟨b1, o1, none⟩) l.length c1, .slice (some ⟨b2, o2, none⟩) l.length c2] w fun e w' => e = .returned (.bool true) ∧ ∃ q, w' = w.drewN q := by
  have H1 := Lib.hid h1
  have H2 := Lib.hid h2
  clear h1 h2
  go_enter Tryd.func13, Tryd.ntmps13
  go_wp2
  go_loopw [5] (fun i wr => ∃ k nq : Nat, k ≤ l.length ∧ i = .int .i64 k ∧ wr = w.drewN nq) (fun i _ => l.length - (intOf i).toNat)
  case atStart => exact ⟨0, 0, Nat.zero_le _, rfl, rfl⟩
  case round =>
    obtain ⟨k, nq, hk, rfl, rfl⟩ := hrel
    by_cases hlt : k < l.length
    · have e1 := H1.out.at k hlt
      have e2 := H2.out.at k hlt
      have i1 : (k : Int) < (l.length : Int) := by omega
      have i2 : (0 : Int) ≤ (k : Int) := by omega
      go_wp2_with fail
      go_quiet (fail)
      go_wp2_with fail
      exact ⟨⟨k + 1, _, by omega, by go_num, rfl⟩, by simp [intOf]; omega⟩
    · go_wp2
      go_ret
      exact ⟨rfl, _, rfl⟩

theorem same_any (v1 v2 : Value) (l : List ByteArray) (w : World) (h1 : Row w v1 l) (h2 : Row w v2 l) (hn : l.length ≤ 1000000) :
    Calls Tryd.prog 13 #[v1, v2] w fun e w' => e = .returned (.bool true) ∧ Below w.heap.size w w' := by
  obtain ⟨a1, c1, rfl, hc1, hl1⟩ := h1
  obtain ⟨a2, c2, rfl, hc2, hl2⟩ := h2
  rcases List.eq_nil_or_concat l with hnil | ⟨l0, x0, hcons⟩
  · subst hnil
    exact (same_zero a1 a2 c1 c2 w).mono fun e w' ⟨he, hw⟩ => ⟨he, hw ▸ Below.refl _ _⟩
  · have hne : l ≠ [] := by rw [hcons]; simp
    obtain ⟨b1, o1, rfl, hb1, hL1⟩ := hl1 hne
    obtain ⟨b2, o2, rfl, hb2, hL2⟩ := hl2 hne
    exact (same_cells b1 o1 c1 b2 o2 c2 l w hL1 hL2 hn).mono fun e w' ⟨he, q, hw⟩ => ⟨he, hw ▸ ⟨rfl, rfl, rfl, Nat.le_refl _, fun _ _ => rfl⟩⟩

def total (l : List ByteArray) : Nat := (l.map (·.size)).sum
def greatB (l : List ByteArray) : Bool := decide (100 < l.length) || decide (5000 < total l)
theorem total_take (l : List ByteArray) (k : Nat) (hk : k < l.length) : total (l.take (k + 1)) = total (l.take k) + (l[k]).size := by
  rw [List.take_succ_eq_append_getElem hk, total, total, List.map_append, List.sum_append]
  simp only [List.map_cons, List.map_nil, List.sum_cons, List.sum_nil, Nat.add_zero]
theorem total_le (l : List ByteArray) (k : Nat) : total (l.take k) ≤ total l := by
  have h : total l = total (l.take k) + total (l.drop k) := by
    unfold total
    rw [← List.sum_append, ← List.map_append, List.take_append_drop]
  omega

set_option maxHeartbeats 400000 in
theorem great_long (a : Option Addr) (n c : Nat) (w : World) (hn : 100 < n) :
    Calls Tryd.prog 12 #[.slice a n c] w fun e w' => e = .returned (.bool true) ∧ w' = w := by
  go_enter Tryd.func12, Tryd.ntmps12
  go_wp2
  go_ret
  exact ⟨rfl, rfl⟩

set_option maxHeartbeats 400000 in
theorem great_zero (a : Option Addr) (c : Nat) (w : World) :
    Calls Tryd.prog 12 #[.slice a 0 c] w fun e w' => e = .returned (.bool false) ∧ w' = w := by
  go_enter Tryd.func12, Tryd.ntmps12
  go_wp2
  refine wp_loop_rounds 1 ?_
  rw [rounds_succ]
  go_wp2
  go_ret
  exact ⟨rfl, rfl⟩

set_option maxHeartbeats 800000 in
theorem great_cells (b o c : Nat) (l : List ByteArray) (w : World) (hL : Lies w b o l) (hn : l.length ≤ 100) (hs : ∀ x ∈ l, x.size ≤ 281474976710656) :
    Calls Tryd.prog 12 #[.slice (some ⟨b, o, none⟩) l.length c] w fun e w' => e = .returned (.bool (decide (5000 < total l))) ∧ w' = w := by
  have HL := Lib.hid hL
  have HS := Lib.hid hs
  clear hL hs
  obtain ⟨A, HA⟩ : ∃ A, Hid (decide (5000 < total l) = A) := ⟨_, rfl⟩
  rw [HA.out]
  go_enter Tryd.func12, Tryd.ntmps12
  go_wp2
  go_loop [3, 4] (fun n i => ∃ (k : Nat) (t : Int), k ≤ l.length ∧ i = .int .i64 k ∧ n = .int .i64 t ∧ 0 ≤ t ∧ t ≤ 281474976720000 ∧ Hid (t = (total (l.take k) : Int))) (fun _ i => l.length - (intOf i).toNat)
  case atStart => exact ⟨0, 0, Nat.zero_le _, rfl, rfl, by omega, by omega, rfl⟩
  case round =>
    obtain ⟨k, t, hk, rfl, rfl, ht0, ht1, HT⟩ := hrel
    by_cases hlt : k < l.length
    · by_cases ht : t ≤ 5000
      · have e1 := HL.out.at k hlt
        have i1 : (k : Int) < (l.length : Int) := by omega
        have i2 : (0 : Int) ≤ (k : Int) := by omega
        have hz := HS.out _ (List.getElem_mem hlt)
        have HT2 : Hid (t + ((l[k]).size : Int) = (total (l.take (k + 1)) : Int)) := by show _ = _; rw [total_take l k hlt, HT.out]; omega
        generalize l[k] = x at *
        go_wp2_with fail
        exact ⟨⟨k + 1, _, by omega, by go_num, rfl, by omega, by omega, HT2⟩, by simp [intOf]; omega⟩
      · have HF : Hid (A = true) := by
          show A = true
          rw [← HA.out]
          have h1 := HT.out
          have h2 := total_le l k
          exact decide_eq_true (by omega)
        go_wp2_with fail
        go_ret
        exact ⟨ret_bool (by rw [HF.out]), rfl⟩
    · have HF : Hid (A = decide (5000 < t)) := by
        show A = _
        rw [← HA.out]
        have h1 := HT.out
        rw [List.take_of_length_le (by omega)] at h1
        congr 1
        rw [h1]
        simp
        omega
      go_wp2_with fail
      go_ret
      exact ⟨ret_bool (HF.out).symm, rfl⟩

theorem great_any (v : Value) (l : List ByteArray) (w : World) (h : Row w v l) (hs : ∀ x ∈ l, x.size ≤ 281474976710656) :
    Calls Tryd.prog 12 #[v] w fun e w' => e = .returned (.bool (greatB l)) ∧ w' = w := by
  obtain ⟨a, c, rfl, hc, hl⟩ := h
  by_cases hn : 100 < l.length
  · have hv : greatB l = true := by simp [greatB, hn]
    rw [hv]
    exact great_long a l.length c w hn
  · rcases List.eq_nil_or_concat l with hnil | ⟨l0, x0, hcons⟩
    · subst hnil
      exact great_zero a c w
    · have hne : l ≠ [] := by rw [hcons]; simp
      obtain ⟨b, o, rfl, hb, hL⟩ := hl hne
      have hv : greatB l = decide (5000 < total l) := by simp [greatB, hn]
      rw [hv]
      exact great_cells b o c l w hL (by omega) hs
end Go.Proofs.YtiaeopjfggiecaaDoor
