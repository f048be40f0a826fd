/- Walks: the program's Canon: a copy, sorted by the library, and whether it rises. -/
import Derived.Test.YtfjbbaejeckonaaDoorT5
import Derived.Lib.SliceRun
namespace Go.Proofs.YtfjbbaejeckonaaDoor
open Go Go.RowKit Go.Sort Tg

set_option maxHeartbeats 1000000 in
theorem insertion_none (p : Option Addr) (cap : Nat) (fv : Value) (w : World) :
    Calls Tryd.prog 64 #[.slice p 0 cap, .int .i64 0, .int .i64 0, fv] w fun e w' => e = .returned (.tuple #[]) ∧ w' = w := by
  go_enter Tryd.func64, Tryd.ntmps64
  go_wp2
  refine wp_loop_rounds 1 ?_
  rw [rounds_succ]
  go_wp2
  go_end0
  exact ⟨rfl, rfl⟩

set_option maxHeartbeats 1000000 in
theorem pdq_none (p : Option Addr) (cap : Nat) (lim : Int) (fv : Value) (w : World) :
    Calls Tryd.prog 55 #[.slice p 0 cap, .int .i64 0, .int .i64 0, .int .i64 lim, fv] w fun e w' => e = .returned (.tuple #[]) ∧ w' = w := by
  go_enter Tryd.func55, Tryd.ntmps55
  go_wp2
  refine wp_loop_rounds 1 ?_
  rw [rounds_succ]
  go_wp2_with (go_at_call 64; refine (insertion_none p cap fv _).mono ?_; rintro e w' ⟨rfl, rfl⟩)
  (try simp only [Exit.inBlock, Exit.then]); refine bodyPost_ret (results_none rfl _ _ _) rfl ?_
  exact ⟨rfl, rfl⟩

set_option maxHeartbeats 1000000 in
theorem sort_none (p : Option Addr) (cap : Nat) (fv : Value) (w : World) :
    Calls Tryd.prog 41 #[.slice p 0 cap, fv] w fun e w' => e = .returned (.tuple #[]) ∧ w' = w := by
  have hl : ∀ W, Calls Tryd.prog 56 #[.int .u64 0] W fun e w' => e = .returned (.int .i64 (Lib.bitLen 0 : Nat)) ∧ w' = W := fun W => Tryd.bits_Len 0 W (by omega) (by omega)
  go_enter Tryd.func41, Tryd.ntmps41
  go_wp2_with (first | (go_at_call 56; refine (hl _).mono ?_; rintro e w' ⟨rfl, rfl⟩) | (go_at_call 55; refine (pdq_none p cap _ fv _).mono ?_; rintro e w' ⟨rfl, rfl⟩))
  go_end0
  exact ⟨rfl, rfl⟩

set_option maxHeartbeats 1000000 in
theorem clone_any (v : Value) (l : List Tag) (w : World) (h : TRow w v l) (hn : l.length ≤ 1000) :
    Calls Tryd.prog 40 #[v] w fun e w' => (∃ v', e = .returned v' ∧ OwnT w' w.heap.size v' l) ∧ Below w.heap.size w w' := by
  obtain ⟨a, c, rfl, hc, hl⟩ := h
  cases a with
  | none =>
    have hl0 : l = [] := by
      rcases List.eq_nil_or_concat l with h0 | ⟨m, x, h0⟩
      · exact h0
      · have hne : l ≠ [] := by rw [h0]; simp
        obtain ⟨b, o, ha, _⟩ := hl hne
        cases ha
    subst hl0
    refine (Tryd.slices_Clone_nil 0 c w).mono ?_
    rintro e w' ⟨rfl, rfl⟩
    exact ⟨⟨_, rfl, ownT_nil _ _⟩, Below.refl _ _⟩
  | some ad =>
    have hnews : ∀ j u, (flat l)[j]? = some u → (w.alloc (Obj.cells #[] 40)).cell? (ad.add j) = some u := by
      intro j u hu
      have hne : l ≠ [] := fun e => by subst e; simp [flat] at hu
      obtain ⟨b, o, ha, hb, hL⟩ := hl hne
      cases ha
      rw [addr_add, World.cell?_alloc_lt _ _ _ hb]
      exact flat_cells hL j u hu
    have HN := Lib.hid hnews
    clear hl hnews
    obtain ⟨i0, hi, hz0, hz1, hz2⟩ := info41
    have HI := Lib.hid (And.intro hi (And.intro hz0 (And.intro hz1 hz2)))
    clear hi hz0 hz1 hz2
    have q22 : ∀ (w : World) (a : Option Addr) (n c n' c' : Nat), (binOp .eql 22 (.slice a n c) (.slice none n' c')).run Tryd.prog w = .ok (.bool a.isNone) w := fun w a n c n' c' => Lib.run_eql_slice_nil w _ _ a n c n' c' Tryd.underlying22
    go_enter Tryd.func40, Tryd.ntmps40
    go_wp2_with (first | (at_builtin; refine wpList_append_own _ rfl _ _ 22 rfl w.heap.size 40 i0 (.agg #[.string ⟨#[]⟩, .string ⟨#[]⟩]) 2 32 Tryd.underlying22 HI.out.1 HI.out.2.1 HI.out.2.2.1 HI.out.2.2.2 rfl (by decide) _ _ _ rfl (World.ownsRow_made w #[] 0 (Nat.le_refl _) (Nat.zero_le _) (by simp)) ad l.length c (flat l) rfl (flat_len l) HN.out (flat_one l) (by unfold maxLen; omega) (by omega) (by simp) ?_; intro v' w2 hown hgrow hnil))
    have hO : OwnT w2 w.heap.size v' l := by simpa using hown
    have d2 : Below w.heap.size w w2 := ((Below.refl _ _).alloc (Nat.le_refl _) _).grown hgrow (by simp) (fun k hk => by cases hk; exact Nat.le_refl _)
    clear hown hgrow hnil HN HI
    go_wp2_with fail
    go_ret
    exact ⟨⟨_, rfl, hO⟩, d2⟩

def encT (x : Tag) : List Value := [.string x.1, .string x.2]
theorem get_bang (l : List Tag) (i : Nat) (h : i < l.length) : l.toArray[i]! = l[i] := by
  rw [getElem!_pos _ i (by simpa using h)]
  simp
theorem own_holds {w : World} {base g cap : Nat} {l : List Tag} (h : OwnT w base (.slice (some ⟨g, 0, none⟩) l.length cap) l) : HoldsK encT 2 w g 0 l.toArray := by
  intro j hj
  rw [size_flatK] at hj
  have hj' : j < l.length * 2 := by simpa using hj
  refine ⟨?_, ?_⟩
  · rw [Nat.zero_add, h.cellAt j hj', id, get_flatK _ _ _ _ hj]
    have hi : j / 2 < l.length := by omega
    obtain ⟨f1, f2⟩ := flat_at l (j / 2) hi
    rw [get_bang l _ hi]
    rcases Nat.mod_two_eq_zero_or_one j with h0 | h0
    · rw [show j / 2 * 2 = j from by omega] at f1
      rw [f1, h0]; rfl
    · rw [show j / 2 * 2 + 1 = j from by omega] at f2
      rw [f2, h0]; rfl
  · rw [Nat.zero_add]; exact h.frozenAt j
theorem holds_lies {w : World} {g : Nat} {d : Array Tag} (h : HoldsK encT 2 w g 0 d) : TLies w g 0 d.toList := by
  intro i hi
  have hi' : i < d.size := by simpa using hi
  have e : d[i]! = d.toList[i] := by rw [getElem!_pos _ i hi']; simp
  have h1 := (h (i * 2) (by rw [size_flatK]; omega)).1
  have h2 := (h (i * 2 + 1) (by rw [size_flatK]; omega)).1
  rw [id, get_flatK _ _ _ _ (by omega), show i * 2 / 2 = i from by omega, show i * 2 % 2 = 0 from by omega, e] at h1
  rw [id, get_flatK _ _ _ _ (by omega), show (i * 2 + 1) / 2 = i from by omega, show (i * 2 + 1) % 2 = 1 from by omega, e] at h2
  exact ⟨h1, by rw [Nat.add_assoc]; exact h2⟩
theorem below_grow2 {base : Nat} {w W : World} (h : Below base w W) (hb : base ≤ W.heap.size) (os : Array Obj) : Below base w (grow W os) := by
  refine ⟨h.os, h.tape, h.output, ?_, ?_⟩
  · show w.heap.size ≤ (W.heap ++ os).size
    have := h.size
    simp
    omega
  · intro b hb2
    show (W.heap ++ os)[b]? = w.heap[b]?
    rw [Array.getElem?_append_left (by omega)]
    exact h.block b hb2
theorem below_sort {base : Nat} {w W : World} {g m : Nat} {d : Array Tag} {os : Array Obj} (h : Below base w W) (hb : base ≤ W.heap.size) (hg : base ≤ g) : Below base w (sortWorldK encT 2 W g 0 m d os) := by
  unfold sortWorldK putRowK
  refine below_grow2 (Lib.below_putRow h hg) ?_ os
  have : (putRow id (Sort.ahead W m) g 0 (flatK encT 2 d)).heap.size = W.heap.size := by rw [size_putRow]; rfl
  omega
theorem lt_ltOf (x y : Tag) : ltOf cf x y = lt x y := by
  unfold ltOf
  rw [Bool.eq_iff_iff, decide_eq_true_eq]
  exact cf_lt x y
theorem swo : SWO (ltOf cf) where
  irrefl x := by rw [lt_ltOf]; exact less_irrefl _
  trans x y z h1 h2 := by rw [lt_ltOf] at *; exact less_trans _ _ _ h1 h2
  ntrans x y z h1 h2 := by
    rw [lt_ltOf] at *
    rcases less_or (nm y) (nm x) with h | h | h
    · cases h3 : lt x z
      · rfl
      · have := less_trans _ _ _ h h3
        rw [show lt y z = less (nm y) (nm z) from rfl, this] at h2
        cases h2
    · unfold lt at *
      rw [h] at h2
      exact h2
    · rw [show lt x y = less (nm x) (nm y) from rfl, h] at h1
      cases h1
theorem sorted_list {l : List Tag} {d : Array Tag} (hp : PermIn 0 l.toArray.size l.toArray d) (hs : SortedIn (ltOf cf) 0 l.toArray.size d) : d.toList.Perm l ∧ (d.toList.Pairwise fun a b => lt b a = false) := by
  obtain ⟨p1, _, p3⟩ := hp
  have e1 : d.extract 0 l.toArray.size = d := by rw [← p1]; simp
  have e2 : l.toArray.extract 0 l.toArray.size = l.toArray := by simp
  rw [e1, e2] at p3
  refine ⟨by simpa using p3, ?_⟩
  rw [List.pairwise_iff_getElem]
  intro i j hi hj hij
  have hi' : i < d.size := by simpa using hi
  have hj' : j < d.size := by simpa using hj
  have := hs i j (Nat.zero_le _) hij (by omega)
  rw [lt_ltOf, getElem!_pos _ i hi', getElem!_pos _ j hj'] at this
  simpa using this
theorem enters25 : ∀ args w, (callFunc 42 args).run Tryd.prog w = .ok (.enter 42 args) w := enters_of Tryd.func42 (by kernel_rfl) rfl
theorem hlen (n : Nat) (W : World) (h : n ≤ 12) : Calls Tryd.prog 56 #[.int .u64 n] W fun e w' => (∃ l : Int, e = .returned (.int .i64 l)) ∧ w' = W :=
  (Tryd.bits_Len n W (by omega) (by omega)).mono fun _ _ ⟨he, hw⟩ => ⟨⟨_, he⟩, hw⟩
theorem sort_any (g cap : Nat) (l : List Tag) (base : Nat) (w0 w : World) (hd : Below base w0 w) (hO : OwnT w base (.slice (some ⟨g, 0, none⟩) l.length cap) l) (hg : base ≤ g) (hgw : g < w.heap.size) (hn : l.length ≤ 12) :
    Calls Tryd.prog 41 #[.slice (some ⟨g, 0, none⟩) l.length cap, .func (.func 42) #[] #[]] w fun e w' => e = .returned (.tuple #[]) ∧ ∃ S, S.Perm l ∧ (S.Pairwise fun a b => lt b a = false) ∧ TLies w' g 0 S ∧ g < w'.heap.size ∧ Below base w0 w' := by
  have hH := own_holds hO
  have hcon := Tryd.slices_SortFunc_small (α := Tag) 2 (fun w => Tryd.isAgg40 w) (fun w => Tryd.sizeOf40 w) encT (fun _ => rfl) (fun x v hv => by simp [encT] at hv; rcases hv with rfl | rfl <;> rfl) cf _ #[] swo g 0 cap l.toArray w enters25 (fun _ _ _ _ x y => byName_any x y _) hH hgw (by simpa using hn) hlen
  have hz : l.toArray.size = l.length := by simp
  refine Calls.mono (by rw [← hz]; exact hcon) ?_
  rintro e w' ⟨he, d, m, os, hp, hs, hw⟩
  obtain ⟨q1, q2⟩ := sorted_list hp hs
  refine ⟨he, d.toList, q1, q2, ?_, ?_, ?_⟩
  · rw [hw]
    exact holds_lies (holdsK_sortWorldK_c encT 2 w g 0 l.toArray d m os hH hgw hp.1)
  · rw [hw]
    exact Nat.lt_of_lt_of_le hgw (size_sortWorldK_c encT 2 w g 0 m d os)
  · rw [hw]
    exact below_sort hd (by omega) hg

set_option maxHeartbeats 1000000 in
theorem canon_any (v : Value) (l : List Tag) (w : World) (h : TRow w v l) (hn : l.length ≤ 1000) (hs : ∀ x ∈ l, x.1.size ≤ 281474976710656 ∧ x.2.size ≤ 281474976710656) :
    Calls Tryd.prog 22 #[v] w fun e w' => (∃ v', e = .returned (.tuple #[v', .int .i64 (canon l).2]) ∧ TRow w' v' (canon l).1) ∧ Below w.heap.size w w' := by
  have H1 := formed_any v l w h (by omega) hs
  cases hf : l.all may
  · rw [canon_form hf]
    rw [hf] at H1
    have H1 := Lib.hid H1
    clear hs hf
    obtain ⟨a, c, rfl, hc, _⟩ := h
    go_enter Tryd.func22, Tryd.ntmps22
    go_wp2_with (first | (go_at_call 39; refine (H1.out).mono ?_; rintro e w1 ⟨rfl, n1⟩))
    go_ret2
    exact ⟨⟨_, rfl, TRow.nil _⟩, n1⟩
  · rw [hf] at H1
    by_cases h4 : 4 < l.length
    · rw [canon_many hf h4]
      have H1 := Lib.hid H1
      clear hs hf
      obtain ⟨a, c, rfl, hc, _⟩ := h
      go_enter Tryd.func22, Tryd.ntmps22
      go_wp2_with (first | (go_at_call 39; refine (H1.out).mono ?_; rintro e w1 ⟨rfl, n1⟩))
      go_ret2
      exact ⟨⟨_, rfl, TRow.nil _⟩, n1⟩
    · have HQ := Lib.hid (canon_order hf (by omega))
      have HR := Lib.hid h
      have H1 := Lib.hid H1
      clear hs hf
      obtain ⟨a, c, rfl, hc, _⟩ := h
      go_enter Tryd.func22, Tryd.ntmps22
      go_wp2_with (first | (go_at_call 39; refine (H1.out).mono ?_; rintro e w1 ⟨rfl, n1⟩))
      have hr1 := HR.out.on n1
      refine (clone_any _ l _ hr1 hn).mono ?_
      rintro e w2 ⟨⟨v2, rfl, hO⟩, n2⟩
      have d2 := n1.trans (n2.mono n1.size)
      clear H1 HR hr1
      rcases List.eq_nil_or_concat l with h0 | ⟨m, x, h0⟩
      · subst h0
        obtain ⟨a2, c2, rfl, hc2, _⟩ := ownT_row hO
        have hr2 := ownT_row hO
        clear hO
        go_wp2_with fail
        refine (sort_none _ _ _ _).mono ?_
        rintro e w3 ⟨rfl, rfl⟩
        go_wp2_with fail
        refine (rising_any _ [] _ hr2 (by simp)).mono ?_
        rintro e w4 ⟨rfl, n4⟩
        rw [rising_nil]
        go_wp2_with fail
        go_ret2
        rw [show canon [] = ([], 0) from rfl]
        exact ⟨⟨_, rfl, hr2.on n4⟩, d2.trans (n4.mono d2.size)⟩
      · have hne : 0 < l.length := by rw [h0]; simp
        clear h0
        obtain ⟨g, cap, hv, hg1, hg2⟩ : ∃ g cap, v2 = .slice (some ⟨g, 0, none⟩) l.length cap ∧ w1.heap.size ≤ g ∧ g < w2.heap.size := by
          rcases hO.2 with ⟨_, hz⟩ | ⟨g, cap, cur, hv, hb, hg, _⟩
          · omega
          · refine ⟨g, cap, hv, hb, ?_⟩
            rcases Nat.lt_or_ge g w2.heap.size with hlt | hge
            · exact hlt
            · rw [Array.getElem?_eq_none hge] at hg; cases hg
        subst hv
        have hcap : l.length ≤ cap := by
          obtain ⟨a3, c3, he, hc3, _⟩ := ownT_row hO
          cases he
          exact hc3
        have HS := Lib.hid (sort_any g cap l w1.heap.size w1 w2 n2 hO hg1 hg2 (by omega))
        clear hO
        go_wp2_with fail
        refine (HS.out).mono ?_
        rintro e w3 ⟨rfl, S, hp, hw, hL, hg3, n3⟩
        have hlen : S.length = l.length := hp.length_eq
        have hr3 : TRow w3 (.slice (some ⟨g, 0, none⟩) S.length cap) S := ⟨_, cap, rfl, by omega, fun _ => ⟨g, 0, rfl, hg3, hL⟩⟩
        have HQ2 := Lib.hid (HQ.out)
        rw [order_sorted hp hw] at HQ2
        have d3 := n1.trans (n3.mono n1.size)
        clear HS hL hw n2 n3 HQ d2 hg1 hg2 hp
        rw [hlen] at hr3
        go_wp2_with fail
        refine (rising_any _ S _ hr3 (by omega)).mono ?_
        rintro e w4 ⟨rfl, n4⟩
        have hr4 := hr3.on n4
        have d4 := d3.trans (n4.mono d3.size)
        clear n4 d3 hr3
        cases hq : rising S
        · rw [hq, if_neg (by simp)] at HQ2
          clear hq
          go_wp2_with fail
          go_ret2
          rw [HQ2.out]
          exact ⟨⟨_, rfl, TRow.nil _⟩, d4⟩
        · rw [hq, if_pos rfl] at HQ2
          clear hq
          go_wp2_with fail
          go_ret2
          rw [HQ2.out]
          exact ⟨⟨_, rfl, hr4⟩, d4⟩
end Go.Proofs.YtfjbbaejeckonaaDoor
