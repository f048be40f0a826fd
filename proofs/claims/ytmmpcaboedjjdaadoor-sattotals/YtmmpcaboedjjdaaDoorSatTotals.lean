/- Proved: the law SatTotals of the sums answers true for every list of sums, nil too, and leaves its argument as it was. Conditions: the five package variables that the library reads lie as the program's own text lays them (the card ties that); nothing else. -/
import Derived.Test.YtmmpcaboedjjdaaDoorRows
import Derived.Test.YtmmpcaboedjjdaaDoorCards
import Derived.Test.YtmmpcaboedjjdaaDoorTie
import Derived.Test.YtmmpcaboedjjdaaDoorF
import Derived.Test.YtmmpcaboedjjdaaDoorL2
import Derived.Deep.SlicePairs
import Derived.SevenTiedAt
namespace Go.Proofs.YtmmpcaboedjjdaaDoor
open Go Go.ChangeShapes Go.WideShapes Go.ChangeAt Go.RowKit Go.Joins Go.Deep

theorem laidOut : laidOutB Tryd.prog = true := by kernel_rfl
theorem cells2 : Tryd.prog.cellsOf 2 = 1 := by kernel_rfl
theorem cells4 : Tryd.prog.cellsOf 4 = 1 := by kernel_rfl

/-- What lies behind a slice of sums that reads as data. -/
theorem open_sums {H : Type} {enc : TypeId × Value → H} {W : World} {a0 : Option Addr} {len cap : Nat} {d : DataW H} {p : List MemPlace}
    (h : DataW.Trod enc Tryd.prog W 0 (fun _ => true) true 29 (.slice a0 len cap) d p) :
    (a0 = none ∧ len = 0 ∧ cap = 0) ∨ (∃ a, a0 = some a ∧ len = 0) ∨ (∃ b o l, a0 = some ⟨b, o, none⟩ ∧ len = l.length ∧ Lies W b o l ∧ b < W.heap.size ∧ ∀ x ∈ l, okS x) := by
  obtain ⟨fuel, hf⟩ := h
  rcases open_slice_pairs Tryd.underlying29 Tryd.underlying23 cells23 rfl rfl cells2 cells4 hf with ⟨hc, _⟩ | ⟨a, len', cap', m, n, V0, V1, D0, D1, P0, P1, hc, _, hl, hm, hmm, hx, hall⟩
  · left
    simp [Value.cells] at hc
    exact hc
  · right
    simp [Value.cells] at hc
    obtain ⟨rfl, rfl, rfl⟩ := hc
    have hm' : m = cap := by simpa using hmm
    subst hm'
    rcases Nat.eq_zero_or_pos len with h0 | hp
    · exact Or.inl ⟨a, rfl, h0⟩
    · right
      have hN : ∀ i, i < len → ∃ x : Int × Bool, W.cell? (a.add (i * 2)) = some (.int .i64 x.1) ∧ W.cell? (a.add (i * 2 + 1)) = some (.bool x.2) ∧ okS x := by
        intro i hi
        obtain ⟨h1, h2, h3, h4⟩ := hall i (by omega)
        obtain ⟨k, e0, _, wk⟩ := DataW.trod_int Tryd.underlying2 h3
        obtain ⟨bo, e1, _⟩ := DataW.trod_bool Tryd.underlying4 h4
        simp at e0 e1
        exact ⟨(k, bo), by rw [h1, e0], by rw [h2, e1], int_bounds wk⟩
      obtain ⟨f, hfx⟩ := choose_lt hN
      obtain ⟨b, off, spot⟩ := a
      have hspot : spot = none := by simpa [Addr.add] using World.cell?_spot (hfx 0 hp).1
      subst hspot
      refine ⟨b, off, (List.range len).map f, rfl, by simp, ?_, ?_, ?_⟩
      · intro i hi
        have hi' : i < len := by simpa using hi
        obtain ⟨h1, h2, _⟩ := hfx i hi'
        rw [Go.WideShapes.add_plain] at h1 h2
        simp only [List.getElem_map, List.getElem_range]
        exact ⟨h1, h2⟩
      · have := World.block_lt_of_cell? _ _ (hfx 0 hp).1
        rw [Go.WideShapes.add_plain] at this
        exact this
      · intro x hx
        simp only [List.mem_map, List.mem_range] at hx
        obtain ⟨i, hi, rfl⟩ := hx
        exact (hfx i hi).2.2

set_option maxRecDepth 100000 in
theorem satTotals_lifted (os : Os) (started : os.Started) (H : Type) (enc : TypeId × Value → H) :
    ReturnsInHanded {} Tryd.checked os 4 .any (fun w args => (Rows.satTotalsSpec.pre enc Tryd.prog Tryd.f4 [] false w args ∧ laidMetH Tryd.prog laidL w) ∧ sizedMet enc Tryd.prog Tryd.f4 (OpenSpec.ofChange Rows.satTotalsSpec) false w args)
      (Rows.satTotalsSpec.post enc Tryd.prog Tryd.f4 false true false false) := by
  refine returnsInHanded_of_change_and (C := Tryd.checked) (X := fun w _ => laidMetH Tryd.prog laidL w) (fun _ _ _ hh h => h.of_heap hh) own started (by kernel_rfl) Tryd.func4
    (ChangeSpec.witness_shaped (enc := enc) (C := Tryd.checked) (os := os) (X := fun w _ => laidMetH Tryd.prog laidL w) false (World.doorLaid Tryd.prog 62 os) #[.slice none 0 0] 8 rfl (World.shaped_of_RefB (by kernel_rfl) (by kernel_rfl)) (by kernel_rfl) (by kernel_rfl) (by kernel_rfl) (door_met os _)) ?_
  intro W base args ds gs before hval0 hW _ _ hL _
  have hval : ∀ (j : Nat) t v, Tryd.f4.params[j]? = some t → args[j]? = some v → Value.okWide Tryd.prog W .any base t v := hval0
  have hW' := hW
  obtain ⟨p, q, hA0, hV, rfl, hfz, hnd⟩ := hW
  have hA : DataW.TrodAll enc Tryd.prog W 0 (fun _ => true) true Tryd.f4.params.toList args.toList ds p := hA0
  rw [Tryd.params4] at hA hval
  obtain ⟨v0, d0, rfl, rfl, h0⟩ := trodAll_one hA
  obtain ⟨rfl, rfl⟩ := trodVars_none hV
  obtain ⟨a0, len, cap, rfl⟩ := okWide_slice Tryd.underlying29 (hval 0 29 v0 rfl rfl)
  clear hA0 hval0
  simp only [List.append_nil] at hW'
  have hlt : ∀ x ∈ p, x.block < W.heap.size := fun x hx => by simpa using hW'.lt x hx
  have fin : ∀ e W', (e : Ending) = .returned (.bool true) ∧ Below W.heap.size W W' → ∃ v, e = .returned v ∧ Rows.satTotalsSpec.post enc Tryd.prog Tryd.f4 false true false false W #[.slice a0 len cap] v W' := by
    rintro e W' ⟨rfl, hnx⟩
    refine ⟨_, rfl, _, _, _, [], p, [], hW', ?_, ?_, rfl, hnx.frame _, fun h => by cases h⟩
    · exact trodAll_mk1 (shut_bool Tryd.underlying4 _)
    · exact trodAll_mk1 (Below.trod laidOut (by kernel_rfl) (of_decide_eq_true (by kernel_rfl)) h0 hnx hlt)
  rcases open_sums h0 with ⟨rfl, rfl, rfl⟩ | ⟨a, rfl, rfl⟩ | ⟨b, o, l, rfl, rfl, hLies, hb, hok⟩
  · exact (totals_nil _ W (env_of hL)).mono fun e W' h => fin e W' h
  · exact (totals_zero _ a cap W (env_of hL)).mono fun e W' h => fin e W' h
  · exact (totals_walk _ b o cap l W (env_of hL) hLies hb hok).mono fun e W' h => fin e W' h

theorem satTotals_row : Rows.SatTotalsSaid :=
  OpenClaim.holds_of_wide 4 Tryd.f4 rfl rfl rfl rfl rfl rfl rfl ⟨rfl, rfl, rfl, rfl, rfl⟩ rfl rfl rfl rfl rfl (by kernel_rfl) Tryd.func4 (by kernel_rfl)
    (of_decide_eq_true (by kernel_rfl)) (by unfold Func.isWrapper; rw [if_neg (of_decide_eq_false (by kernel_rfl))]; exact ⟨rfl, rfl⟩)
    (fun os started H enc _ => satTotals_lifted os started H enc)

theorem satTotals_holds : Rows.SatTotalsCardSaid :=
  Claim7.holds_tied_plain_at .later [] [.data, .data, .data, .sentinel, .sentinel] true (true, "884d30859c1aea8e84dc32f9331008444f2223ae30c33d2cc552200941d36292") true
    satTotals_row (fun _ h => by cases h) (by kernel_rfl) (fun _ h => by cases h) satTotals_row_tie rfl ⟨rfl, rfl⟩ (by kernel_rfl) rfl
    (fun f fn hf hfn => by
      obtain rfl : f = 4 := Option.some.inj ((show Tryd.prog.funcNamed "ebbtide/ebbtidelaw01.SatTotals" = some 4 by kernel_rfl).symm.trans hf) |>.symm
      obtain rfl : fn = Tryd.f4 := (Option.some.inj (Tryd.func4.symm.trans hfn)).symm
      exact ⟨by kernel_rfl, fun j t ht => by
        rw [Tryd.params4] at ht
        have hm : t ∈ [29] := by simpa using Array.mem_of_getElem? ht
        have hall : ([29].all fun u => !Tryd.prog.wantsStandIn u) = true := by kernel_rfl
        exact (show Tryd.prog.wantsStandIn t = false by simpa using List.all_eq_true.1 hall t hm)⟩)
    (by kernel_rfl)
#print axioms satTotals_holds
end Go.Proofs.YtmmpcaboedjjdaaDoor
