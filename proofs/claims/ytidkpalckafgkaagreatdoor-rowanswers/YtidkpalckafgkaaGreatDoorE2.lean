/- Items by their keys: a sorted copy; which of them count: walks. -/
import Derived.Test.YtidkpalckafgkaaGreatDoorE1
import Derived.Test.YtidkpalckafgkaaGreatDoorA7
import Derived.Test.YtidkpalckafgkaaGreatDoorC6
namespace Go.Proofs.YtidkpalckafgkaaGreatDoor.Rw
open Go Go.RowKit Go.Sort Go.Lib Tg Pk Ky Qy

set_option maxRecDepth 100000 in
theorem info50 : ∃ i, Tryz.prog.info? 50 = some i ∧ i.zero = some (.agg #[.int .i64 0, .string ⟨#[]⟩, .int .i64 0, .int .i64 0, .bool false, .int .i64 0, .int .i64 0]) ∧ i.size = 7 ∧ i.bytes = 64 := ⟨_, rfl, rfl, rfl, rfl⟩

set_option maxRecDepth 100000 in
set_option maxHeartbeats 1000000 in
theorem cloneI_any (v : Value) (l : List Item) (w : World) (h : IRow w v l) (hn : l.length ≤ 1000) :
    Calls Tryz.prog 123 #[v] w fun e w' => (∃ v', e = .returned v' ∧ w'.ownsRow w.heap.size 50 7 v' l.length (flatG itC l)) ∧ Below w.heap.size w w' := by
  obtain ⟨a, c, rfl, hc, hl⟩ := h
  cases a with
  | none =>
    have hl0 : l = [] := by
      rcases List.eq_nil_or_concat l with h0 | ⟨m, x, h0⟩
      · exact h0
      · have hne : l ≠ [] := by rw [h0]; simp
        obtain ⟨b, o, ha, _⟩ := hl hne
        cases ha
    subst hl0
    refine (Tryz.slices_Clone_item_nil 0 c w).mono ?_
    rintro e w' ⟨rfl, rfl⟩
    exact ⟨⟨_, rfl, ownG_nil _ _ _⟩, Below.refl _ _⟩
  | some ad =>
    have hnews : ∀ j u, (flatG itC l)[j]? = some u → (w.alloc (Obj.cells #[] 50)).cell? (ad.add j) = some u := by
      intro j u hu
      have hne : l ≠ [] := fun e => by subst e; simp [flatG] at hu
      obtain ⟨b, o, ha, hb, hL⟩ := hl hne
      cases ha
      rw [addr_add, World.cell?_alloc_lt _ _ _ hb]
      exact hL.flat itC_len (by decide) j u hu
    have HN := Lib.hid hnews
    clear hl hnews
    obtain ⟨i0, hi, hz0, hz1, hz2⟩ := info50
    have HI := Lib.hid (And.intro hi (And.intro hz0 (And.intro hz1 hz2)))
    clear hi hz0 hz1 hz2
    have q22 : ∀ (w : World) (a : Option Addr) (n c n' c' : Nat), (binOp .eql 40 (.slice a n c) (.slice none n' c')).run Tryz.prog w = .ok (.bool a.isNone) w := fun w a n c n' c' => Lib.run_eql_slice_nil w _ _ a n c n' c' Tryz.underlying40
    go_enter Tryz.func123, Tryz.ntmps123
    go_wp2_with (first | (at_builtin; refine wpList_append_own _ rfl _ _ 40 rfl w.heap.size 50 i0 (.agg #[.int .i64 0, .string ⟨#[]⟩, .int .i64 0, .int .i64 0, .bool false, .int .i64 0, .int .i64 0]) 7 64 Tryz.underlying40 HI.out.1 HI.out.2.1 HI.out.2.2.1 HI.out.2.2.2 rfl (by decide) _ _ _ rfl (World.ownsRow_made w #[] 0 (Nat.le_refl _) (Nat.zero_le _) (by simp)) ad l.length c (flatG itC l) rfl (flatG_len itC_len l) HN.out (flatG_cells1 itC_one l) (by unfold maxLen; omega) (by omega) (by simp) ?_; intro v' w2 hown hgrow hnil))
    have hO : w2.ownsRow w.heap.size 50 7 v' l.length (flatG itC l) := by simpa using hown
    have d2 : Below w.heap.size w w2 := ((Below.refl _ _).alloc (Nat.le_refl _) _).grown hgrow (by simp) (fun k hk => by cases hk; exact Nat.le_refl _)
    clear hown hgrow hnil HN HI
    go_wp2_with fail
    go_ret
    exact ⟨⟨_, rfl, hO⟩, d2⟩

set_option maxRecDepth 100000 in
set_option maxHeartbeats 1000000 in
theorem byKey_any (v : Value) (l : List Item) (w : World) (h : IRow w v l) (hn : l.length ≤ 1000) :
    Calls Tryz.prog 84 #[v] w fun e w' => (∃ v', e = .returned v' ∧ IRow w' v' (sortK l)) ∧ Below w.heap.size w w' := by
  have HC := Lib.hid (cloneI_any v l w h hn)
  obtain ⟨a, c, rfl, _, _⟩ := h
  go_enter Tryz.func84, Tryz.ntmps84
  go_wp2_with fail
  refine (HC.out).mono ?_
  rintro e w1 ⟨⟨v', rfl, hO⟩, n1⟩
  have hO2 := hO
  rcases hO2.2 with ⟨h0, h1⟩ | ⟨g, cap, cur, hv, _, _, hcap, _, _, _⟩
  · subst h0
    have hl0 : l = [] := List.length_eq_zero_iff.1 h1
    subst hl0
    have H2 : Hid (Calls Tryz.prog 124 #[.slice none 0 0, .func (.func 125) #[] #[]] w1 fun e w' => e = .returned (.tuple #[]) ∧ w' = w1) := by
      have H3 := Lib.hid (stable0 none 0 w1)
      show Calls Tryz.prog 124 _ _ _
      go_enter Tryz.func124, Tryz.ntmps124
      go_wp2_with (first | (go_at_call 172; refine (H3.out).mono ?_; rintro e w2 ⟨rfl, rfl⟩))
      go_end0
      exact ⟨rfl, rfl⟩
    clear HC hO hO2
    go_wp2_with (first | (go_at_call 124; refine (H2.out).mono ?_; rintro e w2 ⟨rfl, rfl⟩))
    go_ret
    exact ⟨⟨_, rfl, GRow.nil _⟩, n1⟩
  · subst hv
    have H2 : Hid (Calls Tryz.prog 124 #[.slice (some ⟨g, 0, none⟩) l.length cap, .func (.func 125) #[] #[]] w1 fun e w' => e = .returned (.tuple #[]) ∧ ILies w' g 0 (sortK l) ∧ g < w'.heap.size ∧ Below w.heap.size w w') := by
      have H3 := Lib.hid (stableI g cap l w.heap.size w w1 n1 hO n1.size (by omega))
      show Calls Tryz.prog 124 _ _ _
      clear HC hO hO2
      go_enter Tryz.func124, Tryz.ntmps124
      go_wp2_with (first | (go_at_call 172; refine (H3.out).mono ?_; rintro e w2 ⟨rfl, q1, q2, q3⟩))
      go_end0
      exact ⟨rfl, q1, q2, q3⟩
    clear HC hO hO2
    go_wp2_with (first | (go_at_call 124; refine (H2.out).mono ?_; rintro e w2 ⟨rfl, q1, q2, q3⟩))
    go_ret
    refine ⟨⟨_, rfl, ?_⟩, q3⟩
    have hlen := (sortK_perm l).length_eq
    refine ⟨some ⟨g, 0, none⟩, cap, by rw [hlen]; rfl, by rw [hlen]; exact hcap, fun _ => ⟨g, 0, rfl, q2, q1⟩⟩

end Go.Proofs.YtidkpalckafgkaaGreatDoor.Rw
