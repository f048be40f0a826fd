/- Proved: the law RowCounts of rows answers true for every query and every slice of items, and leaves its arguments as they were. Conditions: the package variables that the card lists lie as the program's own text lays them (the card ties that); nothing else. -/
import Derived.Test.YtidkpalckafgkaaGreatDoorRows
import Derived.Test.YtidkpalckafgkaaGreatDoorCards
import Derived.Test.YtidkpalckafgkaaGreatDoorTie
import Derived.Test.YtidkpalckafgkaaGreatDoorX2
import Derived.Test.YtidkpalckafgkaaGreatDoorL5
import Derived.SevenTiedAt
namespace Go.Proofs.YtidkpalckafgkaaGreatDoor
open Go Go.ChangeShapes Go.WideShapes Go.ChangeAt Go.RowKit
open Go.ChangeMaps (open_string shut_string)

set_option maxRecDepth 100000 in
theorem rowCounts_lifted (os : Os) (started : os.Started) (H : Type) (enc : TypeId × Value → H) :
    ReturnsInHanded {} Tryz.checked os 8 .any (fun w args => (Rows.rowCountsSpec.pre enc Tryz.prog Tryz.f8 [] false w args ∧ laidMetH Tryz.prog laidL w) ∧ sizedMet enc Tryz.prog Tryz.f8 (OpenSpec.ofChange Rows.rowCountsSpec) false w args)
      (Rows.rowCountsSpec.post enc Tryz.prog Tryz.f8 false true false false) := by
  refine lift started (by kernel_rfl) Tryz.func8
    (ChangeSpec.witness_shaped (enc := enc) (C := Tryz.checked) (os := os) (X := fun w _ => laidMetH Tryz.prog laidL w) false (World.laidAll Tryz.prog os laidL) #[.agg #[.int .i64 0, .string ⟨#[]⟩, .slice none 0 0, .slice none 0 0], .slice none 0 0] 8 (World.laidAll_os _ _ _)
      (World.shaped_of_ZipB (by kernel_rfl) (by kernel_rfl)) (by kernel_rfl) (by kernel_rfl) (by kernel_rfl) (start_met os _)) ?_
  intro W base args ds gs before hval0 hW hsz0 hE hF
  have hsz : (DataW.weightsEach Tryz.prog (Tryz.f8.params.toList ++ Rows.rowCountsSpec.plain.varTypes Tryz.prog) (ds ++ gs)).all (· ≤ reachBytes) = true := hsz0
  clear hsz0
  have hval : ∀ (j : Nat) t v, Tryz.f8.params[j]? = some t → args[j]? = some v → Value.okWide Tryz.prog W .any base t v := hval0
  have hW' := hW
  obtain ⟨p, q, hA0, hV, rfl, hfz, hnd⟩ := hW
  have hA : DataW.TrodAll enc Tryz.prog W 0 (fun _ => true) true Tryz.f8.params.toList args.toList ds p := hA0
  rw [Tryz.params8] at hA hval hsz
  obtain ⟨v0, v1, d0, d1, p0, p1, rfl, rfl, rfl, h0, h1⟩ := trodAll_two hA
  obtain ⟨rfl, rfl⟩ := trodVars_none hV
  obtain ⟨q, a, b, c, d, D, E, hv0, hm, hl, hd0, hD, hE0⟩ := open_query (hval 0 39 v0 rfl rfl) h0
  obtain ⟨a', c', l, hv1, r1, o1, y1⟩ := items_in (hval 1 40 v1 rfl rfl) h1 hsz (j := 1) rfl rfl
  subst hd0
  subst hv0
  subst hv1
  clear hA0 hval0
  simp only [List.append_nil] at hW'
  have hlt : ∀ x ∈ p0, x.block < W.heap.size := fun x hx => by simpa using hW'.lt x (by simp [hx])
  have hlt1 : ∀ x ∈ p1, x.block < W.heap.size := fun x hx => by simpa using hW'.lt x (by simp [hx])
  obtain ⟨z1, z2, z3⟩ := sized_query hsz (j := 0) (q := q) rfl rfl hD hE0
  have fin : ∀ e W', (e : Ending) = .returned (.bool true) ∧ Below W.heap.size W W' → ∃ v, e = .returned v ∧ Rows.rowCountsSpec.post enc Tryz.prog Tryz.f8 false true false false W #[.agg #[.int .i64 q.1, .string q.2.1, .slice a q.2.2.1.length c, .slice b q.2.2.2.length d], .slice a' l.length c'] v W' := by
    rintro e W' ⟨rfl, hnx⟩
    refine ⟨_, rfl, _, _, _, [], p0 ++ p1, [], hW', ?_, ?_, rfl, hnx.frame _, fun h => by cases h⟩
    · exact trodAll_mk1 (shut_bool Tryz.underlying4 _)
    · exact trodAll_mk2 (Below.trod laidOut (by kernel_rfl) (of_decide_eq_true (by kernel_rfl)) h0 hnx hlt) (Below.trod laidOut (by kernel_rfl) (of_decide_eq_true (by kernel_rfl)) h1 hnx hlt1)
  exact (Rw.counts_walk W.heap.size _ _ q l W hE hF (QRow.shut hm hl) r1 z1 z2 z3 o1 y1).mono fun e W' h => fin e W' h

theorem rowCounts_row : Rows.RowCountsSaid :=
  OpenClaim.holds_of_wide 8 Tryz.f8 rfl rfl rfl rfl rfl rfl rfl ⟨rfl, rfl, rfl, rfl, rfl⟩ rfl rfl rfl rfl rfl (by kernel_rfl) Tryz.func8 (by kernel_rfl)
    (of_decide_eq_true (by kernel_rfl)) (by unfold Func.isWrapper; rw [if_neg (of_decide_eq_false (by kernel_rfl))]; exact ⟨rfl, rfl⟩)
    (fun os started H enc _ => rowCounts_lifted os started H enc)

theorem rowCounts_holds : Rows.RowCountsCardSaid :=
  Claim7.holds_tied_plain_at .later [] [.data, .data, .data, .data, .sentinel, .sentinel, .pinned] true (true, "3ecd042ede624d45f164f0ee5037ee0ad7adbd9a4591f4834b049fac76f87670") true
    rowCounts_row (fun _ h => by cases h) (by kernel_rfl) (fun _ h => by cases h) rowCounts_row_tie rfl ⟨rfl, rfl⟩ (by kernel_rfl) rfl
    (fun f fn hf hfn => by
      obtain rfl : f = 8 := Option.some.inj ((show Tryz.prog.funcNamed "ebbtide/ebbtidelaw08.RowCounts" = some 8 by kernel_rfl).symm.trans hf) |>.symm
      obtain rfl : fn = Tryz.f8 := (Option.some.inj (Tryz.func8.symm.trans hfn)).symm
      exact ⟨by kernel_rfl, fun j t ht => by
        rw [Tryz.params8] at ht
        have hm : t ∈ [39, 40] := by simpa using Array.mem_of_getElem? ht
        have hall : ([39, 40].all fun u => !Tryz.prog.wantsStandIn u) = true := by kernel_rfl
        exact (show Tryz.prog.wantsStandIn t = false by simpa using List.all_eq_true.1 hall t hm)⟩)
    (by kernel_rfl)
#print axioms rowCounts_holds
end Go.Proofs.YtidkpalckafgkaaGreatDoor
