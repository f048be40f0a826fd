/- Walks: key.Right, Make and Text, the document's too. -/
import Derived.Test.YtfjbbaejeckonaaDoorK2
import Derived.Test.YtfjbbaejeckonaaDoorT7
namespace Go.Proofs.YtfjbbaejeckonaaDoor
open Go Go.RowKit Tg Ky

set_option maxHeartbeats 400000 in
theorem kright_any (v : Value) (k : Key) (w : World) (h : KRow w v k) (hn : k.2.length ≤ 1000000) (hs : ∀ x ∈ k.2, x.1.size ≤ 281474976710656 ∧ x.2.size ≤ 281474976710656) (hz : k.1.size ≤ 281474976710656) :
    Calls Tryd.prog 13 #[v] w fun e w' => e = .returned (.bool (kright k)) ∧ Below w.heap.size w w' := by
  obtain ⟨t, rfl, r⟩ := h
  have H1 := fun W => name_any k.1 W (by omega)
  have H2 := fun w1 (n1 : Below w.heap.size w w1) => right_any t k.2 w1 (r.on n1) hn hs
  rw [show kright k = (Word.name k.1.data.toList && right k.2) from rfl]
  generalize Word.name k.1.data.toList = p at *
  generalize right k.2 = q at *
  have H1 := Lib.hid H1
  have H2 := Lib.hid H2
  clear hz hs hn r
  cases p
  · go_enter Tryd.func13, Tryd.ntmps13
    go_wp2_with (first
      | (go_at_call 21; refine (H1.out _).mono ?_; rintro e w' ⟨rfl, rfl⟩))
    go_ret
    exact ⟨rfl, aBelow _ _⟩
  · go_enter Tryd.func13, Tryd.ntmps13
    go_wp2_with (first
      | (go_at_call 21; refine (H1.out _).mono ?_; rintro e w' ⟨rfl, rfl⟩)
      | (go_at_call 25; refine (H2.out _ (aBelow _ _)).mono ?_; rintro e w2 ⟨rfl, n2⟩))
    go_ret
    exact ⟨by simp, belowA n2⟩

set_option maxHeartbeats 400000 in
theorem refKright_any (v : Value) (k : Key) (w : World) (h : KRow w v k) (hn : k.2.length ≤ 1000000) (hs : ∀ x ∈ k.2, x.1.size ≤ 281474976710656 ∧ x.2.size ≤ 281474976710656) (hz : k.1.size ≤ 281474976710656) :
    Calls Tryd.prog 14 #[v] w fun e w' => e = .returned (.bool (kright k)) ∧ Below w.heap.size w w' := by
  obtain ⟨t, rfl, r⟩ := h
  have H1 := fun W => refName_any k.1 W (by omega)
  have H2 := fun w1 (n1 : Below w.heap.size w w1) => refRight_any t k.2 w1 (r.on n1) hn hs
  rw [show kright k = (Word.name k.1.data.toList && right k.2) from rfl]
  generalize Word.name k.1.data.toList = p at *
  generalize right k.2 = q at *
  have H1 := Lib.hid H1
  have H2 := Lib.hid H2
  clear hz hs hn r
  cases p
  · go_enter Tryd.func14, Tryd.ntmps14
    go_wp2_with (first
      | (go_at_call 23; refine (H1.out _).mono ?_; rintro e w' ⟨rfl, rfl⟩))
    go_ret
    exact ⟨rfl, aBelow _ _⟩
  · go_enter Tryd.func14, Tryd.ntmps14
    go_wp2_with (first
      | (go_at_call 23; refine (H1.out _).mono ?_; rintro e w' ⟨rfl, rfl⟩)
      | (go_at_call 26; refine (H2.out _ (aBelow _ _)).mono ?_; rintro e w2 ⟨rfl, n2⟩))
    go_ret
    exact ⟨by simp, belowA n2⟩
theorem keepF {W w2 : World} {b off : Nat} {x : Bool} (hb : Below W.heap.size W w2) (h : W.frozen? ⟨b, off, none⟩ = x) (hB : b < W.heap.size) : w2.frozen? ⟨b, off, none⟩ = x := by rw [hb.frozen (p := ⟨b, off, none⟩) hB]; exact h
theorem box_far {w : World} {b0 b o : Nat} {l : List Tag} (hL : TLies w b o l) (hne : l ≠ []) (hc : ∀ i, w.cell? ⟨b0, i, none⟩ = (#[Value.string ⟨#[]⟩, Value.slice none 0 0] : Array Value)[i]?) : b0 ≠ b := by
  rintro rfl
  have h0 : 0 < l.length := List.length_pos_iff.2 hne
  obtain ⟨_, h2⟩ := hL 0 h0
  rw [hc] at h2
  have e : o + 0 * 2 + 1 = o + 1 := by omega
  rw [e] at h2
  match o, h2 with
  | 0, h2 => simp at h2
  | _ + 1, h2 => simp at h2
theorem row_set {w : World} {b0 : Nat} {v : Value} {l : List Tag} (h : TRow w v l) (hc : ∀ i, w.cell? ⟨b0, i, none⟩ = (#[Value.string ⟨#[]⟩, Value.slice none 0 0] : Array Value)[i]?) (x y : Value) : TRow ((w.setCell ⟨b0, 0, none⟩ x).setCell ⟨b0, 1, none⟩ y) v l := by
  obtain ⟨a, c, hv, hcp, hat⟩ := h
  refine ⟨a, c, hv, hcp, fun hne => ?_⟩
  obtain ⟨b, o, ha, hb, hL⟩ := hat hne
  have hf := box_far hL hne hc
  refine ⟨b, o, ha, by simpa using hb, fun i hi => ?_⟩
  rw [World.cell?_setCell_far _ _ _ _ hf, World.cell?_setCell_far _ _ _ _ hf, World.cell?_setCell_far _ _ _ _ hf, World.cell?_setCell_far _ _ _ _ hf]
  exact hL i hi
theorem none_row (w : World) : KRow w (.agg #[.string ⟨#[]⟩, .slice none 0 0]) none0 := ⟨_, rfl, TRow.nil w⟩
theorem kmk_no {n : ByteArray} {p : List Tag × Int} (h : Word.name n.data.toList = false) : kmk n p = (none0, 2) := by unfold kmk; rw [h]; rfl
theorem kmk_er {n : ByteArray} {p : List Tag × Int} (h : Word.name n.data.toList = true) (h2 : ¬ p.2 = 0) : kmk n p = (none0, p.2) := by unfold kmk; rw [if_pos h, if_neg h2]
theorem kmk_is {n : ByteArray} {p : List Tag × Int} (h : Word.name n.data.toList = true) (h2 : p.2 = 0) : kmk n p = ((n, p.1), 0) := by unfold kmk; rw [if_pos h, if_pos h2]

set_option maxHeartbeats 400000 in
theorem kmake_any (n : ByteArray) (v : Value) (l : List Tag) (w : World) (h : TRow w v l) (hn : l.length ≤ 1000) (hs : ∀ x ∈ l, x.1.size ≤ 281474976710656 ∧ x.2.size ≤ 281474976710656) (hz : n.size ≤ 281474976710656) :
    Calls Tryd.prog 10 #[.string n, v] w fun e w' => (∃ kv, e = .returned (.tuple #[kv, .int .i64 (kmake n l).2]) ∧ KRow w' kv (kmake n l).1) ∧ Below w.heap.size w w' := by
  have H1 := fun W => name_any n W (by omega)
  have H2 := fun w1 (n1 : Below w.heap.size w w1) => canon_any v l w1 (h.on n1) hn hs
  cases hp : Word.name n.data.toList
  · rw [show kmake n l = (none0, 2) from kmk_no hp]
    rw [hp] at H1
    have H1 := Lib.hid H1
    clear H2 hs hn hz h hp
    go_enter Tryd.func10, Tryd.ntmps10
    go_wp2_with (first
      | (go_at_call 21; refine (H1.out _).mono ?_; rintro e w' ⟨rfl, rfl⟩))
    exact bodyPost_ret (v := .tuple #[.agg #[.string ⟨#[]⟩, .slice none 0 0], .int .i64 2]) (by simp [results, Tryd.results10, go_sem]) rfl ⟨⟨_, rfl, none_row _⟩, aBelow _ _⟩
  · rw [hp] at H1
    have HM := fun (h2 : (canon l).2 = 0) => kmk_is (n := n) (p := canon l) hp h2
    have HE := fun (h2 : ¬ (canon l).2 = 0) => kmk_er (n := n) (p := canon l) hp h2
    unfold kmake
    have H1 := Lib.hid H1
    have H2 := Lib.hid H2
    clear hs hn hz h hp
    generalize canon l = C at *
    by_cases hC : C.2 = 0
    · rw [HM hC]
      have hq : (C.2 == 0) = true := by simp [hC]
      clear HM HE
      go_enter Tryd.func10, Tryd.ntmps10
      go_wp2_with (first
        | (go_at_call 21; refine (H1.out _).mono ?_; rintro e w' ⟨rfl, rfl⟩))
      refine (H2.out _ (aBelow _ _)).mono ?_
      rintro e w2 ⟨⟨v2, rfl, hr2⟩, n2⟩
      have hc := fun i => newC (i := i) n2
      have c0 := hc 0
      have c1 := hc 1
      have f0 := keepF (b := w.heap.size) (off := 0) (x := false) n2 (by simp [go_sem]) (by simp)
      have f1 := keepF (b := w.heap.size) (off := 1) (x := false) n2 (by simp [go_sem]) (by simp)
      have d2 := belowA n2
      have z2 : w.heap.size < w2.heap.size := by have := n2.size; simp at this; omega
      simp at c0 c1
      obtain ⟨a2, cp2, rfl, hcp2, hat2⟩ := hr2
      have hr2 : TRow w2 (.slice a2 C.1.length cp2) C.1 := ⟨a2, cp2, rfl, hcp2, hat2⟩
      have hr3 := row_set hr2 hc (.string n) (.slice a2 C.1.length cp2)
      have HR := Lib.hid hr3
      clear hat2 hr2 hr3 n2 H1 H2 hc
      go_wp2_with fail
      exact bodyPost_ret (v := .tuple #[.agg #[.string n, .slice a2 C.1.length cp2], .int .i64 0]) (by simp [results, Tryd.results10, go_sem, c0, c1]) rfl ⟨⟨_, rfl, ⟨_, rfl, HR.out⟩⟩, (d2.setCell (Nat.le_refl _) _).setCell (Nat.le_refl _) _⟩
    · rw [HE hC]
      have hq : (C.2 == 0) = false := by simp [hC]
      clear HM HE
      go_enter Tryd.func10, Tryd.ntmps10
      go_wp2_with (first
        | (go_at_call 21; refine (H1.out _).mono ?_; rintro e w' ⟨rfl, rfl⟩))
      refine (H2.out _ (aBelow _ _)).mono ?_
      rintro e w2 ⟨⟨v2, rfl, hr2⟩, n2⟩
      have c0 := newC (i := 0) n2
      have c1 := newC (i := 1) n2
      have f0 := keepF (b := w.heap.size) (off := 0) (x := false) n2 (by simp [go_sem]) (by simp)
      have f1 := keepF (b := w.heap.size) (off := 1) (x := false) n2 (by simp [go_sem]) (by simp)
      have d2 := belowA n2
      have z2 : w.heap.size < w2.heap.size := by have := n2.size; simp at this; omega
      simp at c0 c1
      clear n2 H1 H2 hr2
      go_wp2_with fail
      exact bodyPost_ret (v := .tuple #[.agg #[.string ⟨#[]⟩, .slice none 0 0], .int .i64 C.2]) (by simp [results, Tryd.results10, go_sem, c0, c1]) rfl ⟨⟨_, rfl, none_row _⟩, (d2.setCell (Nat.le_refl _) _).setCell (Nat.le_refl _) _⟩

set_option maxHeartbeats 400000 in
theorem refKmake_any (n : ByteArray) (v : Value) (l : List Tag) (w : World) (h : TRow w v l) (hn : l.length ≤ 1000) (hs : ∀ x ∈ l, x.1.size ≤ 281474976710656 ∧ x.2.size ≤ 281474976710656) (hz : n.size ≤ 281474976710656) :
    Calls Tryd.prog 11 #[.string n, v] w fun e w' => (∃ kv, e = .returned (.tuple #[kv, .int .i64 (kmake n l).2]) ∧ KRow w' kv (kmake n l).1) ∧ Below w.heap.size w w' := by
  have H1 := fun W => refName_any n W (by omega)
  have H2 := fun w1 (n1 : Below w.heap.size w w1) => refCanon_any v l w1 (h.on n1) hn hs
  cases hp : Word.name n.data.toList
  · rw [show kmake n l = (none0, 2) from kmk_no hp]
    rw [hp] at H1
    have H1 := Lib.hid H1
    clear H2 hs hn hz h hp
    go_enter Tryd.func11, Tryd.ntmps11
    go_wp2_with (first
      | (go_at_call 23; refine (H1.out _).mono ?_; rintro e w' ⟨rfl, rfl⟩))
    exact bodyPost_ret (v := .tuple #[.agg #[.string ⟨#[]⟩, .slice none 0 0], .int .i64 2]) (by simp [results, Tryd.results11, go_sem]) rfl ⟨⟨_, rfl, none_row _⟩, aBelow _ _⟩
  · rw [hp] at H1
    have HM := fun (h2 : (canon l).2 = 0) => kmk_is (n := n) (p := canon l) hp h2
    have HE := fun (h2 : ¬ (canon l).2 = 0) => kmk_er (n := n) (p := canon l) hp h2
    unfold kmake
    have H1 := Lib.hid H1
    have H2 := Lib.hid H2
    clear hs hn hz h hp
    generalize canon l = C at *
    by_cases hC : C.2 = 0
    · rw [HM hC]
      have hq : (C.2 == 0) = true := by simp [hC]
      clear HM HE
      go_enter Tryd.func11, Tryd.ntmps11
      go_wp2_with (first
        | (go_at_call 23; refine (H1.out _).mono ?_; rintro e w' ⟨rfl, rfl⟩))
      refine (H2.out _ (aBelow _ _)).mono ?_
      rintro e w2 ⟨⟨v2, rfl, hr2⟩, n2⟩
      have hc := fun i => newC (i := i) n2
      have c0 := hc 0
      have c1 := hc 1
      have f0 := keepF (b := w.heap.size) (off := 0) (x := false) n2 (by simp [go_sem]) (by simp)
      have f1 := keepF (b := w.heap.size) (off := 1) (x := false) n2 (by simp [go_sem]) (by simp)
      have d2 := belowA n2
      have z2 : w.heap.size < w2.heap.size := by have := n2.size; simp at this; omega
      simp at c0 c1
      obtain ⟨a2, cp2, rfl, hcp2, hat2⟩ := hr2
      have hr2 : TRow w2 (.slice a2 C.1.length cp2) C.1 := ⟨a2, cp2, rfl, hcp2, hat2⟩
      have hr3 := row_set hr2 hc (.string n) (.slice a2 C.1.length cp2)
      have HR := Lib.hid hr3
      clear hat2 hr2 hr3 n2 H1 H2 hc
      go_wp2_with fail
      exact bodyPost_ret (v := .tuple #[.agg #[.string n, .slice a2 C.1.length cp2], .int .i64 0]) (by simp [results, Tryd.results11, go_sem, c0, c1]) rfl ⟨⟨_, rfl, ⟨_, rfl, HR.out⟩⟩, (d2.setCell (Nat.le_refl _) _).setCell (Nat.le_refl _) _⟩
    · rw [HE hC]
      have hq : (C.2 == 0) = false := by simp [hC]
      clear HM HE
      go_enter Tryd.func11, Tryd.ntmps11
      go_wp2_with (first
        | (go_at_call 23; refine (H1.out _).mono ?_; rintro e w' ⟨rfl, rfl⟩))
      refine (H2.out _ (aBelow _ _)).mono ?_
      rintro e w2 ⟨⟨v2, rfl, hr2⟩, n2⟩
      have c0 := newC (i := 0) n2
      have c1 := newC (i := 1) n2
      have f0 := keepF (b := w.heap.size) (off := 0) (x := false) n2 (by simp [go_sem]) (by simp)
      have f1 := keepF (b := w.heap.size) (off := 1) (x := false) n2 (by simp [go_sem]) (by simp)
      have d2 := belowA n2
      have z2 : w.heap.size < w2.heap.size := by have := n2.size; simp at this; omega
      simp at c0 c1
      clear n2 H1 H2 hr2
      go_wp2_with fail
      exact bodyPost_ret (v := .tuple #[.agg #[.string ⟨#[]⟩, .slice none 0 0], .int .i64 C.2]) (by simp [results, Tryd.results11, go_sem, c0, c1]) rfl ⟨⟨_, rfl, none_row _⟩, (d2.setCell (Nat.le_refl _) _).setCell (Nat.le_refl _) _⟩

/-- A box of two cells, and that nothing older has turned. -/
theorem held2_on {ab : Nat} {x y : Value} {w W w3 : World}
    (h : W.cell? ⟨ab, 0, none⟩ = some x ∧ W.cell? ⟨ab, 1, none⟩ = some y ∧ Below ab w W) (n : Below W.heap.size W w3) :
    w3.cell? ⟨ab, 0, none⟩ = some x ∧ w3.cell? ⟨ab, 1, none⟩ = some y ∧ Below ab w w3 := by
  obtain ⟨h0, h1, h2⟩ := h
  have z0 := World.block_lt_of_cell? _ _ h0
  exact ⟨keepC n h0 z0, keepC n h1 z0, h2.trans (n.mono (Nat.le_of_lt z0))⟩
theorem held2_b {ab : Nat} {x y : Value} {w W : World} (h : W.cell? ⟨ab, 0, none⟩ = some x ∧ W.cell? ⟨ab, 1, none⟩ = some y ∧ Below ab w W) : Below ab w W := h.2.2
def ktextB (k : Key) : ByteArray := if k.2 = [] then k.1 else k.1 ++ ⟨#[123]⟩ ++ textB k.2 ++ ⟨#[125]⟩

set_option maxHeartbeats 400000 in
theorem ktext_any (v : Value) (k : Key) (w : World) (h : KRow w v k) (hn : k.2.length ≤ 1000) (hs : ∀ x ∈ k.2, x.1.size ≤ 100000 ∧ x.2.size ≤ 100000) (hz : k.1.size ≤ 100000) (hj : (textB k.2).size ≤ 100000000) :
    Calls Tryd.prog 15 #[v] w fun e w' => e = .returned (.string (ktextB k)) ∧ Below w.heap.size w w' := by
  obtain ⟨t, rfl, r⟩ := h
  have H2 := fun w1 (n1 : Below w.heap.size w w1) => text_any t k.2 w1 (r.on n1) hn hs (by omega)
  obtain ⟨a, c, rfl, hc, _⟩ := r
  by_cases h0 : k.2 = []
  · rw [show ktextB k = k.1 from if_pos h0]
    have hl : k.2.length = 0 := by rw [h0]; rfl
    rw [hl]
    clear H2 hs hj h0 hl hc hn
    go_enter Tryd.func15, Tryd.ntmps15
    go_wp2_with fail
    go_ret
    exact ⟨rfl, aBelow _ _⟩
  · rw [show ktextB k = k.1 ++ ⟨#[123]⟩ ++ textB k.2 ++ ⟨#[125]⟩ from if_neg h0]
    have hl : 0 < k.2.length := List.length_pos_iff.2 h0
    have i1 : ¬ k.2.length = 0 := by omega
    have H2 := Lib.hid H2
    generalize textB k.2 = T at *
    generalize k.2.length = ln at *
    generalize k.1 = nm at *
    have u1 : ¬ 9223372036854775807 < nm.size + 1 := by omega
    have u2 : ¬ 9223372036854775807 < nm.size + 1 + T.size := by omega
    have u3 : ¬ 9223372036854775807 < nm.size + 1 + T.size + 1 := by omega
    clear hs h0
    go_enter Tryd.func15, Tryd.ntmps15
    go_wp2_with fail
    have c0 : ((w.alloc (.cells #[.string nm, .slice a ln c] 24)).drew).cell? ⟨w.heap.size, 0, none⟩ = some (.string nm) := by simp [go_sem]
    have c1 : ((w.alloc (.cells #[.string nm, .slice a ln c] 24)).drew).cell? ⟨w.heap.size, 1, none⟩ = some (.slice a ln c) := by simp [go_sem]
    have d1 : Below w.heap.size w ((w.alloc (.cells #[.string nm, .slice a ln c] 24)).drew) := (aBelow _ _).drew
    have hS := And.intro c0 (And.intro c1 d1)
    generalize (w.alloc (.cells #[.string nm, .slice a ln c] 24)) = W1 at *
    generalize hg : w.heap.size = ab at *
    have HG := Lib.hid hg
    clear hg c0 c1 d1
    go_region_held3 (fun w' => w'.cell? ⟨ab, 0, none⟩ = some (.string nm) ∧ w'.cell? ⟨ab, 1, none⟩ = some (.slice a ln c) ∧ Below ab w w') (first | assumption)
      (first
        | (go_at_call 27; refine (H2.out _ (held2_b (by assumption))).mono ?_; rintro e w3 ⟨rfl, n3⟩; have hS3 := held2_on (by assumption) n3; clear n3)
        | fail)
    all_goals
      have d4 : Below w.heap.size w w3 := by rw [HG.out]; exact hS3.2.2
      clear hS3 hS
      go_wp2
      go_ret
      exact ⟨rfl, d4⟩
set_option maxHeartbeats 400000 in
theorem refKtext_any (v : Value) (k : Key) (w : World) (h : KRow w v k) (hn : k.2.length ≤ 1000) (hs : ∀ x ∈ k.2, x.1.size ≤ 100000 ∧ x.2.size ≤ 100000) (hz : k.1.size ≤ 100000) (hj : (textB k.2).size ≤ 100000000) :
    Calls Tryd.prog 16 #[v] w fun e w' => e = .returned (.string (ktextB k)) ∧ Below w.heap.size w w' := by
  obtain ⟨t, rfl, r⟩ := h
  have H2 := fun w1 (n1 : Below w.heap.size w w1) => refText_any t k.2 w1 (r.on n1) hn hs (by omega)
  obtain ⟨a, c, rfl, hc, _⟩ := r
  by_cases h0 : k.2 = []
  · rw [show ktextB k = k.1 from if_pos h0]
    have hl : k.2.length = 0 := by rw [h0]; rfl
    rw [hl]
    clear H2 hs hj h0 hl hc hn
    go_enter Tryd.func16, Tryd.ntmps16
    go_wp2_with fail
    go_ret
    exact ⟨rfl, aBelow _ _⟩
  · rw [show ktextB k = k.1 ++ ⟨#[123]⟩ ++ textB k.2 ++ ⟨#[125]⟩ from if_neg h0]
    have hl : 0 < k.2.length := List.length_pos_iff.2 h0
    have i1 : ¬ k.2.length = 0 := by omega
    have H2 := Lib.hid H2
    generalize textB k.2 = T at *
    generalize k.2.length = ln at *
    generalize k.1 = nm at *
    have u1 : ¬ 9223372036854775807 < nm.size + 1 := by omega
    have u2 : ¬ 9223372036854775807 < nm.size + 1 + T.size := by omega
    have u3 : ¬ 9223372036854775807 < nm.size + 1 + T.size + 1 := by omega
    clear hs h0
    go_enter Tryd.func16, Tryd.ntmps16
    go_wp2_with fail
    have c0 : ((w.alloc (.cells #[.string nm, .slice a ln c] 24)).drew).cell? ⟨w.heap.size, 0, none⟩ = some (.string nm) := by simp [go_sem]
    have c1 : ((w.alloc (.cells #[.string nm, .slice a ln c] 24)).drew).cell? ⟨w.heap.size, 1, none⟩ = some (.slice a ln c) := by simp [go_sem]
    have d1 : Below w.heap.size w ((w.alloc (.cells #[.string nm, .slice a ln c] 24)).drew) := (aBelow _ _).drew
    have hS := And.intro c0 (And.intro c1 d1)
    generalize (w.alloc (.cells #[.string nm, .slice a ln c] 24)) = W1 at *
    generalize hg : w.heap.size = ab at *
    have HG := Lib.hid hg
    clear hg c0 c1 d1
    go_region_held3 (fun w' => w'.cell? ⟨ab, 0, none⟩ = some (.string nm) ∧ w'.cell? ⟨ab, 1, none⟩ = some (.slice a ln c) ∧ Below ab w w') (first | assumption)
      (first
        | (go_at_call 28; refine (H2.out _ (held2_b (by assumption))).mono ?_; rintro e w3 ⟨rfl, n3⟩; have hS3 := held2_on (by assumption) n3; clear n3)
        | fail)
    all_goals
      have d4 : Below w.heap.size w w3 := by rw [HG.out]; exact hS3.2.2
      clear hS3 hS
      go_wp2
      go_ret
      exact ⟨rfl, d4⟩
end Go.Proofs.YtfjbbaejeckonaaDoor
