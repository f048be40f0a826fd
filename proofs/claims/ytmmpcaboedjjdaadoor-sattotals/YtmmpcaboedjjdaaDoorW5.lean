/- Walks: the document's Total, over a slice that lies in memory. -/
import Derived.Test.YtmmpcaboedjjdaaDoorW4
import Derived.Deep.RegionWith
namespace Go.Proofs.YtmmpcaboedjjdaaDoor
open Go Go.RowKit

set_option maxHeartbeats 400000 in
theorem refTotal_any (b o c : Nat) (l : List (Int × Bool)) (w : World) (hL : Lies w b o l) (hb : b < w.heap.size) (ho : ∀ x ∈ l, okS x) (hn : l.length ≤ 1000000) :
    Calls Tryd.prog 13 #[.slice (some ⟨b, o, none⟩) l.length c] w fun e w' => e = .returned (.agg #[.int .i64 (tot l).1, .bool (tot l).2]) ∧ Below w.heap.size w w' := by
  go_enter Tryd.func13, Tryd.ntmps13
  go_wp2
  go_loopw [4] (fun i wr => ∃ k : Nat, k ≤ l.length ∧ i = .int .i64 k ∧ (wr.cell? ⟨w.heap.size + 1, 0, none⟩ = some (.int .i64 (tot (l.take k)).1)) ∧ (wr.cell? ⟨w.heap.size + 1, 1, none⟩ = some (.bool (tot (l.take k)).2)) ∧ (wr.frozen? ⟨w.heap.size + 1, 0, none⟩ = false) ∧ (wr.frozen? ⟨w.heap.size + 1, 1, none⟩ = false) ∧ w.heap.size + 1 < wr.heap.size ∧ Below (w.heap.size + 1) (w.alloc (.cells #[.int .i64 0, .bool false] 23)) wr) (fun i _ => l.length - (intOf i).toNat)
  case atStart =>
    refine ⟨0, Nat.zero_le _, rfl, ?_, ?_, ?_, ?_, ?_, ?_⟩
    · simp [go_sem, tot]
    · simp [go_sem, tot]
    · simp [go_sem]
    · simp [go_sem]
    · simp
    · exact (Below.refl _ _).alloc (by simp) _
  case round =>
    obtain ⟨k, hk, rfl, h1, h2, h3, h4, h5, h6⟩ := hrel
    by_cases hlt : k < l.length
    · have hLk := hL k hlt
      have hc1 : wr.cell? ⟨b, o + k * 2, none⟩ = some (.int .i64 (l[k]).1) := by rw [h6.cell (p := ⟨b, o + k * 2, none⟩) (by simp; omega), World.cell?_alloc_lt _ _ _ hb]; exact hLk.1
      have hc2 : wr.cell? ⟨b, o + k * 2 + 1, none⟩ = some (.bool (l[k]).2) := by rw [h6.cell (p := ⟨b, o + k * 2 + 1, none⟩) (by simp; omega), World.cell?_alloc_lt _ _ _ hb]; exact hLk.2
      clear hLk
      have HT : Hid (tot (l.take (k + 1)) = Sat.add (tot (l.take k)).1 (tot (l.take k)).2 (l[k]).1 (l[k]).2) := by rw [take_snocS l k hlt]; exact tot_snoc _ _
      have HO : Hid (okS (tot (l.take k)) ∧ okS l[k]) := ⟨tot_ok _ fun x hx => ho x (List.mem_of_mem_take hx), ho _ (List.getElem_mem hlt)⟩
      have i0 : (0 : Int) ≤ (k : Int) := by omega
      have i1 : (k : Int) < (l.length : Int) := by omega
      go_wp2_with fail
      go_region_with (go_at_call 10; refine (refAdd_any _ _ _ _ _ HO.out.1.1 HO.out.1.2 HO.out.2.1 HO.out.2.2).mono ?_; rintro e w2 ⟨rfl, hb2⟩; rw [← HT.out]; have hbb : Below wr.heap.size wr w2 := ⟨hb2.os, hb2.tape, hb2.output, hb2.size, hb2.block⟩; have g1 := keepC hbb h1 (by omega); have g2 := keepC hbb h2 (by omega); have g3 := keepF hbb h3 (by omega); have g4 := keepF hbb h4 (by omega); clear hb2)
      all_goals
        generalize hgt : tot (l.take (k + 1)) = T at *
        have HG := Lib.hid hgt
        clear hgt HT HO hc1 hc2 h1 h2 h3 h4
        have hz : w.heap.size + 1 < w2.heap.size := by have := hbb.size; omega
        go_wp2_with fail
        obtain ⟨e1, e2, e3, e4, e5⟩ := box_set w2 (w.heap.size + 1) _ _ (.int .i64 T.1) (.bool T.2) g1 g2 g3 g4
        rw [← HG.out] at *
        exact ⟨⟨k + 1, by omega, by go_num, e1, e2, e3, e4, by rw [e5]; omega, ((h6.trans (hbb.mono (by omega))).setCell (by simp) _).setCell (by simp) _⟩, by simp [intOf]; omega⟩
    · have hr1 : wr.cell? ⟨w.heap.size, 0, none⟩ = some (.int .i64 0) := by rw [h6.cell (p := ⟨w.heap.size, 0, none⟩) (by simp)]; simp [go_sem]
      have hr2 : wr.cell? ⟨w.heap.size, 1, none⟩ = some (.bool false) := by rw [h6.cell (p := ⟨w.heap.size, 1, none⟩) (by simp)]; simp [go_sem]
      have hr3 : wr.frozen? ⟨w.heap.size, 0, none⟩ = false := by rw [h6.frozen (p := ⟨w.heap.size, 0, none⟩) (by simp)]; simp [go_sem]
      have hr4 : wr.frozen? ⟨w.heap.size, 1, none⟩ = false := by rw [h6.frozen (p := ⟨w.heap.size, 1, none⟩) (by simp)]; simp [go_sem]
      rw [List.take_of_length_le (by omega)] at h1 h2
      obtain ⟨e1, e2, e3, e4, e5⟩ := box_set wr w.heap.size _ _ (.int .i64 (tot l).1) (.bool (tot l).2) hr1 hr2 hr3 hr4
      have HE := Lib.hid (And.intro e1 e2)
      clear e1 e2 e3 e4 e5
      go_wp2_with fail
      have e1 := HE.out.1
      have e2 := HE.out.2
      exact bodyPost_ret (v := .agg #[.int .i64 (tot l).1, .bool (tot l).2]) (by simp [results, Tryd.results13, go_sem, e1, e2]) rfl ⟨rfl, (((((Below.refl _ _).alloc (Nat.le_refl _) _).trans (h6.mono (by simp)))).setCell (by simp) _).setCell (by simp) _⟩

set_option maxHeartbeats 400000 in
theorem refTotal_nil (w : World) :
    Calls Tryd.prog 13 #[.slice none 0 0] w fun e w' => e = .returned (.agg #[.int .i64 0, .bool false]) ∧ Below w.heap.size w w' := by
  go_enter Tryd.func13, Tryd.ntmps13
  go_wp2
  refine wp_loop_rounds 1 ?_
  rw [rounds_succ]
  go_wp2_with fail
  exact bodyPost_ret (v := .agg #[.int .i64 0, .bool false]) (by simp [results, Tryd.results13, go_sem]) rfl ⟨rfl, ((Below.refl _ _).alloc (Nat.le_refl _) _).alloc (by simp) _⟩
end Go.Proofs.YtmmpcaboedjjdaaDoor
