/- Walks: whether tags fit matches: the program's, with a match that is asked. -/
import Derived.Test.YtfohknpjlkjbbaaGreatDoorT2
namespace Go.Proofs.YtfohknpjlkjbbaaGreatDoor
open Go Go.RowKit Tg Pk

/-- A match that is asked, as a value. -/
def askV (m : Match) (v : ByteArray) (ok : Bool) : Value := .agg #[.int .i64 m.1, .string m.2.1, .string m.2.2, .string v, .bool ok]

set_option maxHeartbeats 1000000 in
theorem is_any (k : Int) (n x v : ByteArray) (ok : Bool) (W : World) :
    Calls Tryz.prog 93 #[.agg #[.int .i64 k, .string n, .string x, .string v, .bool ok]] W fun e w' => e = .returned (.bool (ok && eqB v x)) ∧ Below W.heap.size W w' := by
  have Q1 := Lib.hid (beq_ba v x)
  generalize eqB v x = q at *
  have q1 := Q1.out
  cases ok
  · go_enter Tryz.func93, Tryz.ntmps93
    go_wp2_with fail
    go_ret
    exact ⟨rfl, aBelow _ _⟩
  · go_enter Tryz.func93, Tryz.ntmps93
    go_wp2_with fail
    go_ret
    exact ⟨by simp, aBelow _ _⟩
theorem pfit1 (x v : ByteArray) (ok : Bool) : pfit 1 x v ok = (ok && eqB v x) := by unfold pfit; simp
theorem pfit2 (x v : ByteArray) (ok : Bool) : pfit 2 x v ok = !(ok && eqB v x) := by unfold pfit; simp
theorem pfit3 (x v : ByteArray) (ok : Bool) : pfit 3 x v ok = (ok && Lib.hasPrefix v.data.toList x.data.toList) := by unfold pfit; simp
theorem pfit4 (x v : ByteArray) (ok : Bool) : pfit 4 x v ok = ok := by unfold pfit; simp
theorem pfit5 (k : Int) (x v : ByteArray) (ok : Bool) (h1 : ¬ k = 1) (h2 : ¬ k = 2) (h3 : ¬ k = 3) (h4 : ¬ k = 4) : pfit k x v ok = false := by unfold pfit; simp [h1, h2, h3, h4]

set_option maxHeartbeats 1000000 in
theorem askFits_any (k : Int) (n x v : ByteArray) (ok : Bool) (W : World) :
    Calls Tryz.prog 75 #[.agg #[.int .i64 k, .string n, .string x, .string v, .bool ok]] W fun e w' => e = .returned (.bool (pfit k x v ok)) ∧ Below W.heap.size W w' := by
  have H1 := Lib.hid (fun k W => is_any k n x v ok W)
  have H2 := Lib.hid (fun W => Tryz.strings_HasPrefix v x W)
  rcases kinds k with rfl | rfl | rfl | rfl | ⟨k1, k2, k3, k4⟩
  · rw [pfit1]
    generalize (ok && eqB v x) = b at *
    go_enter Tryz.func75, Tryz.ntmps75
    go_wp2_with (first | (go_at_call 93; refine (H1.out _ _).mono ?_; rintro e w2 ⟨rfl, n2⟩))
    go_ret
    exact ⟨rfl, belowA n2⟩
  · rw [pfit2]
    generalize (ok && eqB v x) = b at *
    go_enter Tryz.func75, Tryz.ntmps75
    go_wp2_with (first | (go_at_call 93; refine (H1.out _ _).mono ?_; rintro e w2 ⟨rfl, n2⟩))
    go_ret
    exact ⟨rfl, belowA n2⟩
  · rw [pfit3]
    generalize Lib.hasPrefix v.data.toList x.data.toList = b at *
    cases ok
    · go_enter Tryz.func75, Tryz.ntmps75
      go_wp2_with fail
      go_ret
      exact ⟨rfl, aBelow _ _⟩
    · go_enter Tryz.func75, Tryz.ntmps75
      go_wp2_with (first | (go_at_call 94; refine (H2.out _).mono ?_; rintro e w2 ⟨rfl, rfl⟩))
      go_ret
      exact ⟨by simp, aBelow _ _⟩
  · rw [pfit4]
    go_enter Tryz.func75, Tryz.ntmps75
    go_wp2_with fail
    go_ret
    exact ⟨rfl, aBelow _ _⟩
  · rw [pfit5 k x v ok k1 k2 k3 k4]
    go_enter Tryz.func75, Tryz.ntmps75
    go_wp2_with fail
    go_ret
    exact ⟨rfl, aBelow _ _⟩
theorem keepF {W w2 : World} {b off : Nat} {x : Bool} (hb : Below W.heap.size W w2) (h : W.frozen? ⟨b, off, none⟩ = x) (hB : b < W.heap.size) : w2.frozen? ⟨b, off, none⟩ = x := by rw [hb.frozen (p := ⟨b, off, none⟩) hB]; exact h

set_option maxHeartbeats 1000000 in
theorem ask_any (m : Match) (t : Value) (l : List Tag) (w : World) (h : TRow w t l) (hn : l.length ≤ 1000000) :
    Calls Tryz.prog 74 #[.agg #[.int .i64 m.1, .string m.2.1, .string m.2.2], t] w fun e w' => e = .returned (askV m (find l m.2.1).1 (find l m.2.1).2) ∧ Below w.heap.size w w' := by
  have H1 := Lib.hid (fun w1 (n1 : Below w.heap.size w w1) => find_any t l m.2.1 w1 (h.on n1) hn)
  generalize find l m.2.1 = F at *
  obtain ⟨fv, fo⟩ := F
  obtain ⟨k, n, x⟩ := m
  dsimp only at *
  unfold askV
  dsimp only
  clear h hn
  go_enter Tryz.func74, Tryz.ntmps74
  go_wp2_with fail
  refine (H1.out _ (aBelow2 _ _ _)).mono ?_
  rintro e w2 ⟨rfl, n2⟩
  have b0 := newC (i := 0) (belowA n2)
  have b1 := newC (i := 1) (belowA n2)
  have b2 := newC (i := 2) (belowA n2)
  have hz : ∀ o, (w.alloc o).heap.size = w.heap.size + 1 := fun o => by simp
  have c0 := newC (i := 0) n2
  have c1 := newC (i := 1) n2
  have c2 := newC (i := 2) n2
  have c3 := newC (i := 3) n2
  have c4 := newC (i := 4) n2
  rw [hz] at c0 c1 c2 c3 c4
  simp at b0 b1 b2 c0 c1 c2 c3 c4
  have f0 := keepF (b := w.heap.size + 1) (off := 0) (x := false) n2 (by simp [go_sem]) (by simp)
  have f1 := keepF (b := w.heap.size + 1) (off := 1) (x := false) n2 (by simp [go_sem]) (by simp)
  have f2 := keepF (b := w.heap.size + 1) (off := 2) (x := false) n2 (by simp [go_sem]) (by simp)
  have f3 := keepF (b := w.heap.size + 1) (off := 3) (x := false) n2 (by simp [go_sem]) (by simp)
  have f4 := keepF (b := w.heap.size + 1) (off := 4) (x := false) n2 (by simp [go_sem]) (by simp)
  have d2 := belowA2 n2
  have z2 : w.heap.size + 1 < w2.heap.size := by have := n2.size; simp at this; omega
  clear n2 H1 hz
  go_wp2_with fail
  exact bodyPost_ret (v := .agg #[.int .i64 k, .string n, .string x, .string fv, .bool fo]) (by simp [results, Tryz.results74, go_sem, c0, c1, c2, c3, c4]) rfl ⟨rfl, ((((d2.setCell (by simp) _).setCell (by simp) _).setCell (by simp) _).setCell (by simp) _).setCell (by simp) _⟩
end Go.Proofs.YtfohknpjlkjbbaaGreatDoor
