/- Proved: the law TagBack of the tags answers true for every list of tags, nil too, and every text, and leaves its arguments as they were. Conditions: the two package variables that the card lists lie as the program's own text lays them (the card ties that; the proof does not read them); nothing else. -/
import Derived.Test.YtjeimgngnbgopaaDoorRows
import Derived.Test.YtjeimgngnbgopaaDoorCards
import Derived.Test.YtjeimgngnbgopaaDoorTie
import Derived.Test.YtjeimgngnbgopaaDoorE
import Derived.Test.YtjeimgngnbgopaaDoorF2
import Derived.Test.YtjeimgngnbgopaaDoorL1
import Derived.SevenTiedAt
namespace Go.Proofs.YtjeimgngnbgopaaDoor
open Go Go.ChangeShapes Go.WideShapes Go.ChangeAt Go.RowKit
open Go.ChangeMaps (open_string shut_string)

set_option maxRecDepth 100000 in
theorem tagBack_lifted (os : Os) (started : os.Started) (H : Type) (enc : TypeId × Value → H) :
    ReturnsInHanded {} Tryd.checked os 5 .any (fun w args => (Rows.tagBackSpec.pre enc Tryd.prog Tryd.f5 [] false w args ∧ laidMetH Tryd.prog laidL w) ∧ sizedMet enc Tryd.prog Tryd.f5 (OpenSpec.ofChange Rows.tagBackSpec) false w args)
      (Rows.tagBackSpec.post enc Tryd.prog Tryd.f5 false true false false) := by
  refine lift (X := fun w _ => laidMetH Tryd.prog laidL w) started (by kernel_rfl) Tryd.func5
    (ChangeSpec.witness_shaped (enc := enc) (C := Tryd.checked) (os := os) (X := fun w _ => laidMetH Tryd.prog laidL w) false (World.laidAll Tryd.prog os laidL) #[.slice none 0 0, .string ⟨#[]⟩] 8 (World.laidAll_os _ _ _)
      (World.shaped_of_ZipB (by kernel_rfl) (by kernel_rfl)) (by kernel_rfl) (by kernel_rfl) (by kernel_rfl) (start_met os _)) ?_
  intro W base args ds gs before hval0 hW hsz0 hE
  have hsz : (DataW.weightsEach Tryd.prog (Tryd.f5.params.toList ++ Rows.tagBackSpec.plain.varTypes Tryd.prog) (ds ++ gs)).all (· ≤ reachBytes) = true := hsz0
  clear hsz0
  have hval : ∀ (j : Nat) t v, Tryd.f5.params[j]? = some t → args[j]? = some v → Value.okWide Tryd.prog W .any base t v := hval0
  have hW' := hW
  obtain ⟨p, q, hA0, hV, rfl, hfz, hnd⟩ := hW
  have hA : DataW.TrodAll enc Tryd.prog W 0 (fun _ => true) true Tryd.f5.params.toList args.toList ds p := hA0
  rw [Tryd.params5] at hA hval hsz
  obtain ⟨v0, v1, d0, d1, p0, p1, rfl, rfl, rfl, h0, h1⟩ := trodAll_two hA
  obtain ⟨rfl, rfl⟩ := trodVars_none hV
  obtain ⟨a0, len, cap, rfl⟩ := okWide_slice Tryd.underlying22 (hval 0 22 v0 rfl rfl)
  obtain ⟨t, rfl, rfl, rfl, hs⟩ := open_string Tryd.underlying9 (hval 1 9 v1 rfl rfl) h1
  clear hA0 hval0
  simp only [List.append_nil] at hW'
  have hlim : t.size ≤ 281474976710656 := by
    have h1 := sized_string hsz (j := 1) (t := 9) rfl rfl
    have h2 := reachBytes_lt
    have e1 : t.size = t.data.size := rfl
    have e2 : t.data.toList.length = t.data.size := Array.length_toList
    have e3 : (2 : Nat) ^ 47 = 140737488355328 := by decide
    omega
  have hlt : ∀ x ∈ p0, x.block < W.heap.size := fun x hx => by simpa using hW'.lt x (by simp [hx])
  have fin : ∀ e W', (e : Ending) = .returned (.bool true) ∧ Below W.heap.size W W' → ∃ v, e = .returned v ∧ Rows.tagBackSpec.post enc Tryd.prog Tryd.f5 false true false false W #[.slice a0 len cap, .string t] v W' := by
    rintro e W' ⟨rfl, hnx⟩
    refine ⟨_, rfl, _, _, _, [], p0 ++ [], [], hW', ?_, ?_, rfl, hnx.frame _, fun h => by cases h⟩
    · exact trodAll_mk1 (shut_bool Tryd.underlying4 _)
    · exact trodAll_mk2 (Below.trod laidOut (by kernel_rfl) (of_decide_eq_true (by kernel_rfl)) h0 hnx hlt) (shut_string Tryd.underlying9 hs)
  have main : ∀ (v : Value) (l : List Tg.Tag), TRow W v l → (∀ x ∈ l, x.1.size ≤ 281474976710656 ∧ x.2.size ≤ 281474976710656) → Calls Tryd.prog 5 #[v, .string t] W fun e W' => e = .returned (.bool true) ∧ Below W.heap.size W W' := by
    intro v l hr hl
    cases hg : greatT l
    · by_cases h5 : 500 < t.size
      · exact back_long v l t W hE hr hl hg hlim h5
      · exact back_walk v l t W hE hr hl hg h5
    · exact back_great v l t W hE hr hl hg
  rcases open_tags h0 with ⟨rfl, rfl, rfl⟩ | ⟨a, l, sp, rfl, rfl, hrow, rfl⟩
  · exact (main _ [] (TRow.nil W) (fun x hx => by cases hx)).mono fun e W' h => fin e W' h
  · exact (main _ l hrow (sized_tags hsz (j := 0) rfl rfl)).mono fun e W' h => fin e W' h

theorem tagBack_row : Rows.TagBackSaid :=
  OpenClaim.holds_of_wide 5 Tryd.f5 rfl rfl rfl rfl rfl rfl rfl ⟨rfl, rfl, rfl, rfl, rfl⟩ rfl rfl rfl rfl rfl (by kernel_rfl) Tryd.func5 (by kernel_rfl)
    (of_decide_eq_true (by kernel_rfl)) (by unfold Func.isWrapper; rw [if_neg (of_decide_eq_false (by kernel_rfl))]; exact ⟨rfl, rfl⟩)
    (fun os started H enc _ => tagBack_lifted os started H enc)

theorem tagBack_holds : Rows.TagBackCardSaid :=
  Claim7.holds_tied_plain_at .later [] [.data, .pinned] true (true, "e63b953071c3843daa8f577168262393cb243701e79f5b6d40ddb5988c4edc46") false
    tagBack_row (fun _ h => by cases h) (by kernel_rfl) (fun _ h => by cases h) tagBack_row_tie rfl ⟨rfl, rfl⟩ (by kernel_rfl) rfl
    (fun f fn hf hfn => by
      obtain rfl : f = 5 := Option.some.inj ((show Tryd.prog.funcNamed "ebbtide/ebbtidelaw03.TagBack" = some 5 by kernel_rfl).symm.trans hf) |>.symm
      obtain rfl : fn = Tryd.f5 := (Option.some.inj (Tryd.func5.symm.trans hfn)).symm
      exact ⟨by kernel_rfl, fun j t ht => by
        rw [Tryd.params5] at ht
        have hm : t ∈ [22, 9] := by simpa using Array.mem_of_getElem? ht
        have hall : ([22, 9].all fun u => !Tryd.prog.wantsStandIn u) = true := by kernel_rfl
        exact (show Tryd.prog.wantsStandIn t = false by simpa using List.all_eq_true.1 hall t hm)⟩)
    (by kernel_rfl)
#print axioms tagBack_holds
end Go.Proofs.YtjeimgngnbgopaaDoor
