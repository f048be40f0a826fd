/- Walks: Total, the program's and the document's, over a slice that lies in memory. -/
import Derived.Test.YtmmpcaboedjjdaaDoorW1
import Derived.Lib.Hide
namespace Go.Proofs.YtmmpcaboedjjdaaDoor
open Go Go.RowKit

def tot (l : List (Int × Bool)) : Int × Bool := l.foldl (fun s x => Sat.add s.1 s.2 x.1 x.2) (0, false)
def okS (x : Int × Bool) : Prop := -9223372036854775808 ≤ x.1 ∧ x.1 ≤ 9223372036854775807
theorem tot_snoc (l : List (Int × Bool)) (x : Int × Bool) : tot (l ++ [x]) = Sat.add (tot l).1 (tot l).2 x.1 x.2 := by simp [tot, List.foldl_append]
theorem tot_ok (l : List (Int × Bool)) (h : ∀ x ∈ l, okS x) : okS (tot l) := by
  have H : ∀ (l : List (Int × Bool)) (s : Int × Bool), okS s → (∀ x ∈ l, okS x) → okS (l.foldl (fun s x => Sat.add s.1 s.2 x.1 x.2) s) := by
    intro l
    induction l with
    | nil => intro s hs _; exact hs
    | cons a r ih =>
      intro s hs h
      exact ih _ (Sat.add_bounds _ _ _ _ hs.1 hs.2 (h a (by simp)).1 (h a (by simp)).2) (fun x hx => h x (by simp [hx]))
  exact H l (0, false) ⟨by decide, by decide⟩ h

/-- The sums l lie in block b from offset o on. -/
def Lies (w : World) (b o : Nat) (l : List (Int × Bool)) : Prop :=
  ∀ i (h : i < l.length), w.cell? ⟨b, o + i * 2, none⟩ = some (.int .i64 (l[i]).1) ∧ w.cell? ⟨b, o + i * 2 + 1, none⟩ = some (.bool (l[i]).2)

theorem take_snocS (l : List (Int × Bool)) (k : Nat) (h : k < l.length) : l.take (k + 1) = l.take k ++ [l[k]] := by
  rw [List.take_succ_eq_append_getElem h]

/-- Two cells of a block, stored anew. -/
theorem box_set (w : World) (b : Nat) (x y u v : Value) (h1 : w.cell? ⟨b, 0, none⟩ = some x) (h2 : w.cell? ⟨b, 1, none⟩ = some y) (h3 : w.frozen? ⟨b, 0, none⟩ = false) (h4 : w.frozen? ⟨b, 1, none⟩ = false) :
    ((w.setCell ⟨b, 0, none⟩ u).setCell ⟨b, 1, none⟩ v).cell? ⟨b, 0, none⟩ = some u ∧ ((w.setCell ⟨b, 0, none⟩ u).setCell ⟨b, 1, none⟩ v).cell? ⟨b, 1, none⟩ = some v ∧
    ((w.setCell ⟨b, 0, none⟩ u).setCell ⟨b, 1, none⟩ v).frozen? ⟨b, 0, none⟩ = false ∧ ((w.setCell ⟨b, 0, none⟩ u).setCell ⟨b, 1, none⟩ v).frozen? ⟨b, 1, none⟩ = false ∧
    ((w.setCell ⟨b, 0, none⟩ u).setCell ⟨b, 1, none⟩ v).heap.size = w.heap.size := by
  refine ⟨?_, ?_, ?_, ?_, ?_⟩ <;> simp [go_sem, h1, h2, h3, h4]

theorem keepC {W w2 : World} {b off : Nat} {x : Option Value} (hb : Below W.heap.size W w2) (h : W.cell? ⟨b, off, none⟩ = x) (hB : b < W.heap.size) : w2.cell? ⟨b, off, none⟩ = x := by rw [hb.cell (p := ⟨b, off, none⟩) hB]; exact h
theorem keepF {W w2 : World} {b off : Nat} {x : Bool} (hb : Below W.heap.size W w2) (h : W.frozen? ⟨b, off, none⟩ = x) (hB : b < W.heap.size) : w2.frozen? ⟨b, off, none⟩ = x := by rw [hb.frozen (p := ⟨b, off, none⟩) hB]; exact h
theorem belowAlloc {W w2 : World} {o : Obj} (hb : Below (W.alloc o).heap.size (W.alloc o) w2) : Below W.heap.size W w2 := ((Below.refl _ _).alloc (Nat.le_refl _) _).trans (hb.mono (by simp))

set_option maxHeartbeats 400000 in
theorem of_world (n : Int) (w : World) :
    Calls Tryd.prog 11 #[.int .i64 n] w fun e w' => e = .returned (.agg #[.int .i64 n, .bool false]) ∧ w' = w.alloc (.cells #[.int .i64 n, .bool false] 23) := by
  go_enter Tryd.func11, Tryd.ntmps11
  go_wp2
  exact bodyPost_ret (v := .agg #[.int .i64 n, .bool false]) (by simp [results, Tryd.results11, go_sem]) rfl ⟨rfl, rfl⟩

set_option maxHeartbeats 400000 in
theorem total_any (b o c : Nat) (l : List (Int × Bool)) (w : World) (hL : Lies w b o l) (hb : b < w.heap.size) (ho : ∀ x ∈ l, okS x) (hn : l.length ≤ 1000000) :
    Calls Tryd.prog 12 #[.slice (some ⟨b, o, none⟩) l.length c] w fun e w' => e = .returned (.agg #[.int .i64 (tot l).1, .bool (tot l).2]) ∧ Below w.heap.size w w' := by
  go_enter Tryd.func12, Tryd.ntmps12
  go_wp2_with (go_at_call 11; refine (of_world _ _).mono ?_; rintro e w' ⟨rfl, rfl⟩)
  go_loopw [9] (fun i wr => ∃ k : Nat, k ≤ l.length ∧ i = .int .i64 k ∧ (wr.cell? ⟨w.heap.size + 1 + 1, 0, none⟩ = some (.int .i64 (tot (l.take k)).1)) ∧ (wr.cell? ⟨w.heap.size + 1 + 1, 1, none⟩ = some (.bool (tot (l.take k)).2)) ∧ (wr.frozen? ⟨w.heap.size + 1 + 1, 0, none⟩ = false) ∧ (wr.frozen? ⟨w.heap.size + 1 + 1, 1, none⟩ = false) ∧ w.heap.size + 2 < wr.heap.size ∧ Below (w.heap.size + 1) (w.alloc (.cells #[.int .i64 0, .bool false] 23)) wr) (fun i _ => l.length - (intOf i).toNat)
  case atStart =>
    refine ⟨0, Nat.zero_le _, rfl, ?_, ?_, ?_, ?_, ?_, ?_⟩
    · simp [go_sem, tot]
    · simp [go_sem, tot]
    · simp [go_sem]
    · simp [go_sem]
    · simp
    · exact ((Below.refl _ _).alloc (by simp) _).alloc (by simp) _
  case round =>
    obtain ⟨k, hk, rfl, h1, h2, h3, h4, h5, h6⟩ := hrel
    by_cases hlt : k < l.length
    · have hLk := hL k hlt
      have hc1 : wr.cell? ⟨b, o + k * 2, none⟩ = some (.int .i64 (l[k]).1) := by rw [h6.cell (p := ⟨b, o + k * 2, none⟩) (by simp; omega), World.cell?_alloc_lt _ _ _ hb]; exact hLk.1
      have hc2 : wr.cell? ⟨b, o + k * 2 + 1, none⟩ = some (.bool (l[k]).2) := by rw [h6.cell (p := ⟨b, o + k * 2 + 1, none⟩) (by simp; omega), World.cell?_alloc_lt _ _ _ hb]; exact hLk.2
      clear hLk
      have HT : Hid (tot (l.take (k + 1)) = Sat.add (tot (l.take k)).1 (tot (l.take k)).2 (l[k]).1 (l[k]).2) := by rw [take_snocS l k hlt]; exact tot_snoc _ _
      have HO : Hid (okS (tot (l.take k)) ∧ okS l[k]) := ⟨tot_ok _ fun x hx => ho x (List.mem_of_mem_take hx), ho _ (List.getElem_mem hlt)⟩
      go_wp2_with fail
      refine (add_any _ _ _ _ _ HO.out.1.1 HO.out.1.2 HO.out.2.1 HO.out.2.2).mono ?_
      rintro e w2 ⟨rfl, hb2⟩
      rw [← HT.out]
      generalize hgt : tot (l.take (k + 1)) = T at *
      have HG := Lib.hid hgt
      clear hgt
      have hbb := belowAlloc hb2
      have g1 := keepC hbb h1 (by omega)
      have g2 := keepC hbb h2 (by omega)
      have g3 := keepF hbb h3 (by omega)
      have g4 := keepF hbb h4 (by omega)
      have hz : w.heap.size + 2 < w2.heap.size := by have := hbb.size; omega
      clear HT HO hb2 hc1 hc2 h1 h2 h3 h4
      go_wp2_with fail
      obtain ⟨e1, e2, e3, e4, e5⟩ := box_set w2 (w.heap.size + 1 + 1) _ _ (.int .i64 T.1) (.bool T.2) g1 g2 g3 g4
      rw [← HG.out] at *
      exact ⟨⟨k + 1, by omega, by go_num, e1, e2, e3, e4, by rw [e5]; omega, ((h6.trans (hbb.mono (by omega))).setCell (by simp) _).setCell (by simp) _⟩, by simp [intOf]; omega⟩
    · have hr1 : wr.cell? ⟨w.heap.size, 0, none⟩ = some (.int .i64 0) := by rw [h6.cell (p := ⟨w.heap.size, 0, none⟩) (by simp)]; simp [go_sem]
      have hr2 : wr.cell? ⟨w.heap.size, 1, none⟩ = some (.bool false) := by rw [h6.cell (p := ⟨w.heap.size, 1, none⟩) (by simp)]; simp [go_sem]
      have hr3 : wr.frozen? ⟨w.heap.size, 0, none⟩ = false := by rw [h6.frozen (p := ⟨w.heap.size, 0, none⟩) (by simp)]; simp [go_sem]
      have hr4 : wr.frozen? ⟨w.heap.size, 1, none⟩ = false := by rw [h6.frozen (p := ⟨w.heap.size, 1, none⟩) (by simp)]; simp [go_sem]
      rw [List.take_of_length_le (by omega)] at h1 h2
      obtain ⟨e1, e2, e3, e4, e5⟩ := box_set wr w.heap.size _ _ (.int .i64 (tot l).1) (.bool (tot l).2) hr1 hr2 hr3 hr4
      have HE := Lib.hid (And.intro e1 e2)
      clear e1 e2 e3 e4 e5
      go_wp2_with fail
      have e1 := HE.out.1
      have e2 := HE.out.2
      exact bodyPost_ret (v := .agg #[.int .i64 (tot l).1, .bool (tot l).2]) (by simp [results, Tryd.results12, go_sem, e1, e2]) rfl ⟨rfl, (((((Below.refl _ _).alloc (Nat.le_refl _) _).trans (h6.mono (by simp)))).setCell (by simp) _).setCell (by simp) _⟩

set_option maxHeartbeats 400000 in
theorem total_nil (w : World) :
    Calls Tryd.prog 12 #[.slice none 0 0] w fun e w' => e = .returned (.agg #[.int .i64 0, .bool false]) ∧ Below w.heap.size w w' := by
  go_enter Tryd.func12, Tryd.ntmps12
  go_wp2_with (go_at_call 11; refine (of_world _ _).mono ?_; rintro e w' ⟨rfl, rfl⟩)
  refine wp_loop_rounds 1 ?_
  rw [rounds_succ]
  go_wp2_with fail
  exact bodyPost_ret (v := .agg #[.int .i64 0, .bool false]) (by simp [results, Tryd.results12, go_sem]) rfl ⟨rfl, below3 _ _ _⟩
end Go.Proofs.YtmmpcaboedjjdaaDoor
