/- Walks: a part's match: the program's read and the document's part. -/
import Derived.Test.YtolmgfeljpalgaaDoorP5
namespace Go.Proofs.YtolmgfeljpalgaaDoor
open Go Go.RowKit Tg Pk

def matV (m : Match) : Value := .agg #[.int .i64 m.1, .string m.2.1, .string m.2.2]
theorem cutB_none (s : ByteArray) (c : UInt8) (sep : List UInt8) (hs : s.size ≤ 100000) (h : cutAt (c :: sep) s.data.toList = none) (W : World) (hE : Env W) :
    Calls Tryd.prog 44 #[.string s, .string (bb (c :: sep))] W fun e w' => e = .returned (.tuple #[.string s, .string ⟨#[]⟩, .bool false]) ∧ ∃ n, w' = W.drewN n := by
  obtain ⟨m, hm⟩ := hE
  have H := Tryd.strings_Cut s (bb (c :: sep)) m W (by omega) hm
  rw [bb_list, cutAt_eq _ (by simp), h] at H
  have e : (⟨s.data.toList.toArray⟩ : ByteArray) = s := bb_eq s
  simp only [e] at H
  exact H
theorem cutB_some (s : ByteArray) (c : UInt8) (sep : List UInt8) (q : List UInt8 × List UInt8) (hs : s.size ≤ 100000) (h : cutAt (c :: sep) s.data.toList = some q) (W : World) (hE : Env W) :
    Calls Tryd.prog 44 #[.string s, .string (bb (c :: sep))] W fun e w' => e = .returned (.tuple #[.string (bb q.1), .string (bb q.2), .bool true]) ∧ ∃ n, w' = W.drewN n := by
  obtain ⟨m, hm⟩ := hE
  have H := Tryd.strings_Cut s (bb (c :: sep)) m W (by omega) hm
  rw [bb_list, cutAt_eq _ (by simp), h] at H
  exact H
theorem pread_not {p : List UInt8} {q : List UInt8 × List UInt8} (h : cutAt [33, 61] p = some q) : pread p = (2, bb q.1, bb q.2) := by unfold pread; rw [h]
theorem pread_has {p : List UInt8} (h : cutAt [33, 61] p = none) (h2 : cutAt [61] p = none) : pread p = (4, bb p, bb []) := by unfold pread; rw [h, h2]
theorem pread_pre {p : List UInt8} {q : List UInt8 × List UInt8} (h : cutAt [33, 61] p = none) (h2 : cutAt [61] p = some q) (h3 : Lib.hasSuffix q.2 [42] = true) : pread p = (3, bb q.1, bb (Lib.trimSuffix q.2 [42])) := by unfold pread; rw [h, h2]; simp only [h3, if_true]
theorem pread_is {p : List UInt8} {q : List UInt8 × List UInt8} (h : cutAt [33, 61] p = none) (h2 : cutAt [61] p = some q) (h3 : Lib.hasSuffix q.2 [42] = false) : pread p = (1, bb q.1, bb q.2) := by unfold pread; rw [h, h2]; simp only [h3, Bool.false_eq_true, if_false]
theorem Env.drewN {w : World} (h : Env w) (n : Nat) : Env (w.drewN n) := h
theorem sized_bb (l : List UInt8) : (bb l).size = l.length := by show l.toArray.size = _; simp
theorem d3 (w : World) (o : Obj) (n : Nat) (x y z : Value) : Below w.heap.size w (((((w.alloc o).drewN n).setCell ⟨w.heap.size, 0, none⟩ x).setCell ⟨w.heap.size, 1, none⟩ y).setCell ⟨w.heap.size, 2, none⟩ z) :=
  (((below_drewN (aBelow _ _) n).setCell (p := ⟨w.heap.size, 0, none⟩) (Nat.le_refl _) _).setCell (p := ⟨w.heap.size, 1, none⟩) (Nat.le_refl _) _).setCell (p := ⟨w.heap.size, 2, none⟩) (Nat.le_refl _) _

set_option maxHeartbeats 1000000 in
theorem read_any (s : ByteArray) (w : World) (hE : Env w) (hs : s.size ≤ 100000) :
    Calls Tryd.prog 31 #[.string s] w fun e w' => e = .returned (matV (pread s.data.toList)) ∧ Below w.heap.size w w' := by
  cases h2 : cutAt [33, 61] s.data.toList with
  | some q =>
    have H1 := Lib.hid (fun W hE => cutB_some s 33 [61] q hs h2 W hE)
    rw [pread_not h2]
    have hE1 := fun o => hE.alloc o
    clear h2 hE
    unfold matV
    dsimp only
    generalize bb q.1 = n at *
    generalize bb q.2 = v at *
    go_enter Tryd.func31, Tryd.ntmps31
    go_wp2_with (first | (go_at_call 44; refine (H1.out _ (hE1 _)).mono ?_; rintro e w2 ⟨rfl, j, rfl⟩))
    exact bodyPost_ret (v := .agg #[.int .i64 2, .string n, .string v]) (by simp [results, Tryd.results31, go_sem]) rfl ⟨rfl, d3 _ _ _ _ _ _⟩
  | none =>
    have H1 := Lib.hid (fun W hE => cutB_none s 33 [61] hs h2 W hE)
    cases h1 : cutAt [61] s.data.toList with
    | none =>
      have H2 := Lib.hid (fun W hE => cutB_none s 61 [] hs h1 W hE)
      rw [pread_has h2 h1, bb_eq]
      have hE1 := fun o => hE.alloc o
      have hE2 := fun o n => (hE.alloc o).drewN n
      clear h1 h2 hE
      unfold matV
      dsimp only
      go_enter Tryd.func31, Tryd.ntmps31
      go_wp2_with fail
      refine (H1.out _ (hE1 _)).mono ?_
      rintro e w2 ⟨rfl, j, rfl⟩
      go_wp2_with fail
      refine (H2.out _ (hE2 _ _)).mono ?_
      rintro e w2 ⟨rfl, j2, rfl⟩
      go_wp2_with fail
      exact bodyPost_ret (v := .agg #[.int .i64 4, .string s, .string ⟨#[]⟩]) (by simp [results, Tryd.results31, go_sem]) rfl ⟨rfl, d3 _ _ _ _ _ _⟩
    | some q =>
      have H2 := Lib.hid (fun W hE => cutB_some s 61 [] q hs h1 W hE)
      have hq := congrArg List.length (cutAt_some _ _ _ h1)
      simp at hq
      have hsl := size_list s
      rw [Array.length_toList] at hsl
      have HX := Lib.hid (fun W => Tryd.strings_CutSuffix (bb q.2) (bb [42]) W (by rw [sized_bb]; omega))
      rw [bb_list, bb_list] at HX
      have hE1 := fun o => hE.alloc o
      have hE2 := fun o n => (hE.alloc o).drewN n
      clear hq hsl hE
      cases h3 : Lib.hasSuffix q.2 [42]
      · rw [pread_is h2 h1 h3]
        rw [h3] at HX
        clear h1 h2 h3
        unfold matV
        dsimp only
        generalize bb q.1 = n at *
        generalize bb q.2 = v at *
        generalize (⟨(Lib.trimSuffix q.2 [42]).toArray⟩ : ByteArray) = u at *
        go_enter Tryd.func31, Tryd.ntmps31
        go_wp2_with fail
        refine (H1.out _ (hE1 _)).mono ?_
        rintro e w2 ⟨rfl, j, rfl⟩
        go_wp2_with fail
        refine (H2.out _ (hE2 _ _)).mono ?_
        rintro e w2 ⟨rfl, j2, rfl⟩
        go_wp2_with fail
        refine (HX.out _).mono ?_
        rintro e w2 ⟨rfl, rfl⟩
        go_wp2_with fail
        exact bodyPost_ret (v := .agg #[.int .i64 1, .string n, .string v]) (by simp [results, Tryd.results31, go_sem]) rfl ⟨rfl, d3 _ _ _ _ _ _⟩
      · rw [pread_pre h2 h1 h3]
        rw [h3] at HX
        clear h1 h2 h3
        unfold matV
        dsimp only
        rw [show bb (Lib.trimSuffix q.2 [42]) = (⟨(Lib.trimSuffix q.2 [42]).toArray⟩ : ByteArray) from rfl]
        generalize bb q.1 = n at *
        generalize bb q.2 = v at *
        generalize (⟨(Lib.trimSuffix q.2 [42]).toArray⟩ : ByteArray) = u at *
        go_enter Tryd.func31, Tryd.ntmps31
        go_wp2_with fail
        refine (H1.out _ (hE1 _)).mono ?_
        rintro e w2 ⟨rfl, j, rfl⟩
        go_wp2_with fail
        refine (H2.out _ (hE2 _ _)).mono ?_
        rintro e w2 ⟨rfl, j2, rfl⟩
        go_wp2_with fail
        refine (HX.out _).mono ?_
        rintro e w2 ⟨rfl, rfl⟩
        go_wp2_with fail
        exact bodyPost_ret (v := .agg #[.int .i64 3, .string n, .string u]) (by simp [results, Tryd.results31, go_sem]) rfl ⟨rfl, d3 _ _ _ _ _ _⟩
end Go.Proofs.YtolmgfeljpalgaaDoor
