/- Walks: whether a series fits a query, and its group, both. -/
import Derived.Test.YtfohknpjlkjbbaaGreatDoorQ3
import Derived.Test.YtfohknpjlkjbbaaGreatDoorH1
import Derived.Test.YtfohknpjlkjbbaaGreatDoorG4
namespace Go.Proofs.YtfohknpjlkjbbaaGreatDoor
open Go Go.RowKit Tg Pk Ky Qy

theorem only_small {l : List Tag} {ns : List ByteArray} (h : ∀ x ∈ l, x.1.size ≤ 100000 ∧ x.2.size ≤ 100000) (hn : l.length ≤ 1000) : (only l ns).length ≤ 1000 ∧ (∀ x ∈ only l ns, x.1.size ≤ 100000 ∧ x.2.size ≤ 100000) ∧ (textB (only l ns)).size ≤ 140737488355328 := by
  have h1 : (only l ns).length ≤ l.length := List.length_filter_le _ _
  have h2 : ∀ x ∈ only l ns, x.1.size ≤ 100000 ∧ x.2.size ≤ 100000 := fun x hx => h x (List.mem_filter.1 hx).1
  refine ⟨by omega, h2, ?_⟩
  have h3 := text_size (only l ns) 200001 (fun t ht => by have := h2 t ht; omega)
  have h4 : (only l ns).length * 200002 ≤ 1000 * 200002 := Nat.mul_le_mul_right _ (by omega)
  omega

set_option maxHeartbeats 1000000 in
theorem qfits_any (v1 v2 : Value) (q : Query) (k : Key) (w : World) (h1 : QRow w v1 q) (h2 : KRow w v2 k) (hn : q.2.2.1.length ≤ 1000000) (hm : k.2.length ≤ 1000000) :
    Calls Tryz.prog 18 #[v1, v2] w fun e w' => e = .returned (.bool (qfits q k)) ∧ Below w.heap.size w w' := by
  obtain ⟨a, c, b, d, rfl, rm, rb⟩ := h1.open
  obtain ⟨a', c', rfl, rt⟩ := h2.open
  clear h1 h2
  have H1 := fun W (n : Below w.heap.size w W) => fitsM_any _ _ k.2 q.2.2.1 W (rt.on n) (rm.on n) hn hm
  have Q1 := Lib.hid (beq_ba k.1 q.2.1)
  rw [show qfits q k = (eqB k.1 q.2.1 && pfits k.2 q.2.2.1) from rfl]
  generalize pfits k.2 q.2.2.1 = dm at *
  generalize eqB k.1 q.2.1 = dn at *
  have H1 := Lib.hid H1
  clear rm rb rt hn hm
  have q1 := Q1.out
  cases dn
  · go_enter Tryz.func18, Tryz.ntmps18
    go_wp2_with fail
    go_ret
    exact ⟨rfl, aBelow2 _ _ _⟩
  · go_enter Tryz.func18, Tryz.ntmps18
    go_wp2_with fail
    refine (H1.out _ (aBelow2 _ _ _)).mono ?_
    rintro e w2 ⟨rfl, n2⟩
    have d2 := belowA2 n2
    go_wp2_with fail
    go_ret
    exact ⟨by simp, d2⟩
set_option maxHeartbeats 1000000 in
theorem refQfits_any (v1 v2 : Value) (q : Query) (k : Key) (w : World) (h1 : QRow w v1 q) (h2 : KRow w v2 k) (hn : q.2.2.1.length ≤ 1000000) (hm : k.2.length ≤ 1000000) (hz : ∀ y ∈ k.2, y.1.size ≤ 281474976710656 ∧ y.2.size ≤ 281474976710656) (hs : ∀ x ∈ q.2.2.1, x.2.1.size ≤ 281474976710656 ∧ x.2.2.size ≤ 281474976710656) :
    Calls Tryz.prog 19 #[v1, v2] w fun e w' => e = .returned (.bool (qfits q k)) ∧ Below w.heap.size w w' := by
  obtain ⟨a, c, b, d, rfl, rm, rb⟩ := h1.open
  obtain ⟨a', c', rfl, rt⟩ := h2.open
  clear h1 h2
  have H1 := fun W (n : Below w.heap.size w W) => refFitsM_any _ _ k.2 q.2.2.1 W (rt.on n) (rm.on n) hn hm hz hs
  have Q1 := Lib.hid (beq_ba k.1 q.2.1)
  rw [show qfits q k = (eqB k.1 q.2.1 && pfits k.2 q.2.2.1) from rfl]
  generalize pfits k.2 q.2.2.1 = dm at *
  generalize eqB k.1 q.2.1 = dn at *
  have H1 := Lib.hid H1
  clear rm rb rt hn hm
  have q1 := Q1.out
  cases dn
  · go_enter Tryz.func19, Tryz.ntmps19
    go_wp2_with fail
    go_ret
    exact ⟨rfl, aBelow2 _ _ _⟩
  · go_enter Tryz.func19, Tryz.ntmps19
    go_wp2_with fail
    refine (H1.out _ (aBelow2 _ _ _)).mono ?_
    rintro e w2 ⟨rfl, n2⟩
    have d2 := belowA2 n2
    go_wp2_with fail
    go_ret
    exact ⟨by simp, d2⟩
set_option maxHeartbeats 1000000 in
theorem qgroup_any (v1 v2 : Value) (q : Query) (k : Key) (w : World) (h1 : QRow w v1 q) (h2 : KRow w v2 k) (hn : q.2.2.2.length ≤ 1000000) (hm : k.2.length ≤ 1000) (hz : ∀ y ∈ k.2, y.1.size ≤ 100000 ∧ y.2.size ≤ 100000) :
    Calls Tryz.prog 20 #[v1, v2] w fun e w' => e = .returned (.string (textB (only k.2 q.2.2.2))) ∧ Below w.heap.size w w' := by
  obtain ⟨a, c, b, d, rfl, rm, rb⟩ := h1.open
  obtain ⟨a', c', rfl, rt⟩ := h2.open
  clear h1 h2
  obtain ⟨o1, o2, o3⟩ := only_small (ns := q.2.2.2) hz hm
  have H1 := Lib.hid (fun W (n : Below w.heap.size w W) => only_any _ _ k.2 q.2.2.2 W (rt.on n) (rb.on n) (by omega) hn)
  have H2 := Lib.hid (fun v W (h : TRow W v (only k.2 q.2.2.2)) => text_any v _ W h o1 o2 o3)
  clear rm rb rt hn hm hz o1 o2 o3
  generalize only k.2 q.2.2.2 = O at *
  go_enter Tryz.func20, Tryz.ntmps20
  go_wp2_with fail
  refine (H1.out _ (aBelow2 _ _ _)).mono ?_
  rintro e w2 ⟨⟨v', rfl, rO⟩, n2⟩
  have d2 := belowA2 n2
  clear n2
  go_wp2_with fail
  refine (H2.out _ _ rO).mono ?_
  rintro e w3 ⟨rfl, n3⟩
  have d3 := d2.trans (n3.mono d2.size)
  go_wp2_with fail
  go_ret
  exact ⟨rfl, d3⟩
set_option maxHeartbeats 1000000 in
theorem refQgroup_any (v1 v2 : Value) (q : Query) (k : Key) (w : World) (h1 : QRow w v1 q) (h2 : KRow w v2 k) (hn : q.2.2.2.length ≤ 1000000) (hm : k.2.length ≤ 1000) (hz : ∀ y ∈ k.2, y.1.size ≤ 100000 ∧ y.2.size ≤ 100000) :
    Calls Tryz.prog 21 #[v1, v2] w fun e w' => e = .returned (.string (textB (only k.2 q.2.2.2))) ∧ Below w.heap.size w w' := by
  obtain ⟨a, c, b, d, rfl, rm, rb⟩ := h1.open
  obtain ⟨a', c', rfl, rt⟩ := h2.open
  clear h1 h2
  obtain ⟨o1, o2, o3⟩ := only_small (ns := q.2.2.2) hz hm
  have H1 := Lib.hid (fun W (n : Below w.heap.size w W) => refOnly_any _ _ k.2 q.2.2.2 W (rt.on n) (rb.on n) (by omega) hn)
  have H2 := Lib.hid (fun v W (h : TRow W v (only k.2 q.2.2.2)) => refText_any v _ W h o1 o2 o3)
  clear rm rb rt hn hm hz o1 o2 o3
  generalize only k.2 q.2.2.2 = O at *
  go_enter Tryz.func21, Tryz.ntmps21
  go_wp2_with fail
  refine (H1.out _ (aBelow2 _ _ _)).mono ?_
  rintro e w2 ⟨⟨v', rfl, rO⟩, n2⟩
  have d2 := belowA2 n2
  clear n2
  go_wp2_with fail
  refine (H2.out _ _ rO).mono ?_
  rintro e w3 ⟨rfl, n3⟩
  have d3 := d2.trans (n3.mono d2.size)
  go_wp2_with fail
  go_ret
  exact ⟨rfl, d3⟩
end Go.Proofs.YtfohknpjlkjbbaaGreatDoor
