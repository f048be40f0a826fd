/- Proved: the law TagTells of the tags answers true for every list of tags and every list of names, nil too, and leaves its arguments as they were. Conditions: the two package variables that the card lists lie as the program's own text lays them (the card ties that; the proof does not read them); nothing else. -/
import Derived.Test.YtjeimgngnbgopaaDoorRows
import Derived.Test.YtjeimgngnbgopaaDoorCards
import Derived.Test.YtjeimgngnbgopaaDoorTie
import Derived.Test.YtjeimgngnbgopaaDoorE
import Derived.Test.YtjeimgngnbgopaaDoorF2
import Derived.Test.YtjeimgngnbgopaaDoorL3
import Derived.SevenTiedAt
namespace Go.Proofs.YtjeimgngnbgopaaDoor
open Go Go.ChangeShapes Go.WideShapes Go.ChangeAt Go.RowKit
open Go.ChangeMaps (open_string shut_string)

set_option maxRecDepth 100000 in
theorem tagTells_lifted (os : Os) (started : os.Started) (H : Type) (enc : TypeId × Value → H) :
    ReturnsInHanded {} Tryd.checked os 3 .any (fun w args => (Rows.tagTellsSpec.pre enc Tryd.prog Tryd.f3 [] false w args ∧ laidMetH Tryd.prog laidL w) ∧ sizedMet enc Tryd.prog Tryd.f3 (OpenSpec.ofChange Rows.tagTellsSpec) false w args)
      (Rows.tagTellsSpec.post enc Tryd.prog Tryd.f3 false true false false) := by
  refine lift (X := fun w _ => laidMetH Tryd.prog laidL w) started (by kernel_rfl) Tryd.func3
    (ChangeSpec.witness_shaped (enc := enc) (C := Tryd.checked) (os := os) (X := fun w _ => laidMetH Tryd.prog laidL w) false (World.laidAll Tryd.prog os laidL) #[.slice none 0 0, .slice none 0 0] 8 (World.laidAll_os _ _ _)
      (World.shaped_of_ZipB (by kernel_rfl) (by kernel_rfl)) (by kernel_rfl) (by kernel_rfl) (by kernel_rfl) (start_met os _)) ?_
  intro W base args ds gs before hval0 hW hsz0 hE
  have hsz : (DataW.weightsEach Tryd.prog (Tryd.f3.params.toList ++ Rows.tagTellsSpec.plain.varTypes Tryd.prog) (ds ++ gs)).all (· ≤ reachBytes) = true := hsz0
  clear hsz0
  have hval : ∀ (j : Nat) t v, Tryd.f3.params[j]? = some t → args[j]? = some v → Value.okWide Tryd.prog W .any base t v := hval0
  have hW' := hW
  obtain ⟨p, q, hA0, hV, rfl, hfz, hnd⟩ := hW
  have hA : DataW.TrodAll enc Tryd.prog W 0 (fun _ => true) true Tryd.f3.params.toList args.toList ds p := hA0
  rw [Tryd.params3] at hA hval hsz
  obtain ⟨v0, v1, d0, d1, p0, p1, rfl, rfl, rfl, h0, h1⟩ := trodAll_two hA
  obtain ⟨rfl, rfl⟩ := trodVars_none hV
  obtain ⟨a0, len, cap, rfl⟩ := okWide_slice Tryd.underlying22 (hval 0 22 v0 rfl rfl)
  obtain ⟨a1, len1, cap1, rfl⟩ := okWide_slice Tryd.underlying23 (hval 1 23 v1 rfl rfl)
  clear hA0 hval0
  simp only [List.append_nil] at hW'
  have hlt : ∀ x ∈ p0, x.block < W.heap.size := fun x hx => by simpa using hW'.lt x (by simp [hx])
  have hlt1 : ∀ x ∈ p1, x.block < W.heap.size := fun x hx => by simpa using hW'.lt x (by simp [hx])
  have fin : ∀ e W', (e : Ending) = .returned (.bool true) ∧ Below W.heap.size W W' → ∃ v, e = .returned v ∧ Rows.tagTellsSpec.post enc Tryd.prog Tryd.f3 false true false false W #[.slice a0 len cap, .slice a1 len1 cap1] v W' := by
    rintro e W' ⟨rfl, hnx⟩
    refine ⟨_, rfl, _, _, _, [], p0 ++ p1, [], hW', ?_, ?_, rfl, hnx.frame _, fun h => by cases h⟩
    · exact trodAll_mk1 (shut_bool Tryd.underlying4 _)
    · exact trodAll_mk2 (Below.trod laidOut (by kernel_rfl) (of_decide_eq_true (by kernel_rfl)) h0 hnx hlt) (Below.trod laidOut (by kernel_rfl) (of_decide_eq_true (by kernel_rfl)) h1 hnx hlt1)
  have nilT : Row W (.slice none 0 0) [] := ⟨none, 0, rfl, Nat.le_refl _, fun hne => absurd rfl hne⟩
  rcases open_tags h0 with ⟨rfl, rfl, rfl⟩ | ⟨a, l, sp, rfl, rfl, hrow, rfl⟩
  · rcases open_texts h1 with ⟨rfl, rfl, rfl⟩ | ⟨b, ns, r, rfl, rfl, hrow2, rfl⟩
    · exact (tells_nil _ [] W hE nilT).mono fun e W' h => fin e W' h
    · exact (tells_nil _ ns W hE hrow2).mono fun e W' h => fin e W' h
  · rcases open_texts h1 with ⟨rfl, rfl, rfl⟩ | ⟨b, ns, r, rfl, rfl, hrow2, rfl⟩
    · exact (tells_walk _ _ _ l [] W hE hrow nilT (sized_tags hsz (j := 0) rfl rfl)).mono fun e W' h => fin e W' h
    · exact (tells_walk _ _ _ l ns W hE hrow hrow2 (sized_tags hsz (j := 0) rfl rfl)).mono fun e W' h => fin e W' h

theorem tagTells_row : Rows.TagTellsSaid :=
  OpenClaim.holds_of_wide 3 Tryd.f3 rfl rfl rfl rfl rfl rfl rfl ⟨rfl, rfl, rfl, rfl, rfl⟩ rfl rfl rfl rfl rfl (by kernel_rfl) Tryd.func3 (by kernel_rfl)
    (of_decide_eq_true (by kernel_rfl)) (by unfold Func.isWrapper; rw [if_neg (of_decide_eq_false (by kernel_rfl))]; exact ⟨rfl, rfl⟩)
    (fun os started H enc _ => tagTells_lifted os started H enc)

theorem tagTells_holds : Rows.TagTellsCardSaid :=
  Claim7.holds_tied_plain_at .later [] [.data, .pinned] true (true, "e63b953071c3843daa8f577168262393cb243701e79f5b6d40ddb5988c4edc46") false
    tagTells_row (fun _ h => by cases h) (by kernel_rfl) (fun _ h => by cases h) tagTells_row_tie rfl ⟨rfl, rfl⟩ (by kernel_rfl) rfl
    (fun f fn hf hfn => by
      obtain rfl : f = 3 := Option.some.inj ((show Tryd.prog.funcNamed "ebbtide/ebbtidelaw03.TagTells" = some 3 by kernel_rfl).symm.trans hf) |>.symm
      obtain rfl : fn = Tryd.f3 := (Option.some.inj (Tryd.func3.symm.trans hfn)).symm
      exact ⟨by kernel_rfl, fun j t ht => by
        rw [Tryd.params3] at ht
        have hm : t ∈ [22, 23] := by simpa using Array.mem_of_getElem? ht
        have hall : ([22, 23].all fun u => !Tryd.prog.wantsStandIn u) = true := by kernel_rfl
        exact (show Tryd.prog.wantsStandIn t = false by simpa using List.all_eq_true.1 hall t hm)⟩)
    (by kernel_rfl)
#print axioms tagTells_holds
end Go.Proofs.YtjeimgngnbgopaaDoor
