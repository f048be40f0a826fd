/- Carried over from earlier layers: walks and lemmas of tags, series and matches. -/
import Derived.Test.YtfohknpjlkjbbaaGreatDoorG3
import Derived.OwnWalk
import Derived.Deep.AppendLies
namespace Go.Proofs.YtfohknpjlkjbbaaGreatDoor
open Go Go.RowKit Go.Sort Tg
def pairB (t : Tag) : ByteArray := t.1 ++ ⟨#[61]⟩ ++ t.2
def textB (l : List Tag) : ByteArray := joinB ⟨#[44]⟩ (l.map pairB)
theorem row_of_own {wr : World} {base g : Nat} {l : List Tag} {xs : List Value} {k : Nat} (ho : wr.ownsRow base 9 1 (.slice (some ⟨g, 0, none⟩) l.length l.length) l.length xs) (ht : xs.take k = (l.take k).map fun t => .string (pairB t)) (hk : ¬ k < l.length) : Row wr (.slice (some ⟨g, 0, none⟩) l.length l.length) (l.map pairB) := by
  have hx : xs.length = l.length * 1 := ho.1
  rw [List.take_of_length_le (by omega), List.take_of_length_le (by omega)] at ht
  have h2 : Own wr base (.slice (some ⟨g, 0, none⟩) l.length l.length) (l.map pairB) := by
    show wr.ownsRow base 9 1 _ (l.map pairB).length ((l.map pairB).map Value.string)
    rw [List.length_map, List.map_map]
    rw [ht] at ho
    exact ho
  exact own_row h2
set_option maxHeartbeats 1000000 in
theorem text_any (v : Value) (l : List Tag) (w : World) (h : TRow w v l) (hn : l.length ≤ 1000) (hs : ∀ x ∈ l, x.1.size ≤ 100000 ∧ x.2.size ≤ 100000) (hj : (textB l).size ≤ 140737488355328) :
    Calls Tryz.prog 49 #[v] w fun e w' => e = .returned (.string (textB l)) ∧ Below w.heap.size w w' := by
  obtain ⟨a, c, rfl, hc, hl⟩ := h
  obtain ⟨i0, hi, hz0, hz1, hz2⟩ := info9
  have HI := Lib.hid (And.intro hi (And.intro hz0 (And.intro hz1 hz2)))
  clear hi hz0 hz1 hz2
  have HL := Lib.hid hl
  have HS := Lib.hid hs
  clear hl hs
  go_enter Tryz.func49, Tryz.ntmps49
  go_wp2_with (first | (at_make; refine wpList_make_full _ rfl _ _ 23 rfl w.heap.size 9 i0 (.string ⟨#[]⟩) 1 Tryz.underlying23 HI.out.1 HI.out.2.1 HI.out.2.2.1 .i64 .i64 _ _ l.length rfl rfl rfl rfl (by rw [HI.out.2.2.2]; omega) (by unfold maxLen; omega) (Nat.le_refl _) ?_; intro w0 hown0 hgrow0))
  have d0 : Below w.heap.size w w0 := (Below.refl _ _).grown hgrow0 (Nat.le_refl _) (fun k hk => by cases hk)
  have HO0 := Lib.hid hown0
  clear hown0 hgrow0
  go_loopw [11] (fun i wr => ∃ (k : Nat) (xs : List Value), k ≤ l.length ∧ i = .int .i64 k ∧ Hid (wr.ownsRow w.heap.size 9 1 (.slice (some ⟨w.heap.size, 0, none⟩) l.length l.length) l.length xs) ∧ Hid (xs.take k = (l.take k).map fun t => .string (pairB t)) ∧ Below w.heap.size w wr) (fun i _ => l.length - (intOf i).toNat)
  case atStart => exact ⟨0, _, Nat.zero_le _, rfl, HO0, rfl, d0⟩
  case round =>
    obtain ⟨k, xs, hk, rfl, HO, HT, hbl⟩ := hrel
    clear HO0 d0
    by_cases hlt : k < l.length
    · obtain ⟨b, o, rfl, hb, hL⟩ := HL.out (ne_of_lt hlt)
      obtain ⟨e1, e2⟩ := (hL.on hb hbl) k hlt
      have i1 : (k : Int) < (l.length : Int) := by omega
      have i2 : (0 : Int) ≤ (k : Int) := by omega
      have hz := hbl.size
      obtain ⟨z1, z2⟩ := HS.out _ (List.getElem_mem hlt)
      have hxl : xs.length = l.length * 1 := HO.out.1
      have hx : k < xs.length := by omega
      have HN : Hid ((xs.set k (.string (pairB l[k]))).take (k + 1) = (l.take (k + 1)).map fun t => .string (pairB t)) := by
        show _ = _
        rw [set_take _ _ _ hx, HT.out, List.take_succ_eq_append_getElem hlt, List.map_append]
        rfl
      rw [show pairB l[k] = (l[k]).1 ++ ⟨#[61]⟩ ++ (l[k]).2 from rfl] at HN
      generalize l[k] = x at *
      have c0 : (wr.alloc (Obj.cells #[.string x.1, .string x.2] 63)).cell? ⟨w.heap.size, k, none⟩ = some xs[k] := by
        rw [(HO.out.alloc _).cellAt k (by omega), List.getElem?_eq_getElem hx]
      have c1 : (wr.alloc (Obj.cells #[.string x.1, .string x.2] 63)).frozen? ⟨w.heap.size, k, none⟩ = false := (HO.out.alloc _).frozenAt k
      have HST := Lib.hid (((HO.out.alloc (Obj.cells #[.string x.1, .string x.2] 63)).stored k (.string (x.1 ++ ⟨#[61]⟩ ++ x.2))).1)
      have d1 := (hbl.alloc hz (Obj.cells #[.string x.1, .string x.2] 63)).setCell (p := ⟨w.heap.size, k, none⟩) (Nat.le_refl _) (.string (x.1 ++ ⟨#[61]⟩ ++ x.2))
      have HD := Lib.hid d1
      clear d1 hL hb HO HT hxl
      go_wp2_with fail
      exact ⟨⟨k + 1, _, by omega, by go_num, HST, HN, HD.out⟩, by simp [intOf]; omega⟩
    · have hr := row_of_own HO.out HT.out hlt
      clear HO HT HL HS HI
      go_wp2_with (first | (go_at_call 32; refine (join_row _ (l.map pairB) ⟨#[44]⟩ _ hr (by rw [List.length_map]; omega) hj).mono ?_; rintro e w2 ⟨rfl, n2⟩))
      go_ret
      exact ⟨rfl, hbl.trans (n2.mono hbl.size)⟩
set_option maxHeartbeats 2000000 in
theorem refText_any (v : Value) (l : List Tag) (w : World) (h : TRow w v l) (hn : l.length ≤ 1000) (hs : ∀ x ∈ l, x.1.size ≤ 100000 ∧ x.2.size ≤ 100000) (hj : (textB l).size ≤ 140737488355328) :
    Calls Tryz.prog 51 #[v] w fun e w' => e = .returned (.string (textB l)) ∧ Below w.heap.size w w' := by
  obtain ⟨a, c, rfl, hc, hl⟩ := h
  obtain ⟨i0, hi, hz0, hz1, hz2⟩ := info9
  have HI := Lib.hid (And.intro hi (And.intro hz0 (And.intro hz1 hz2)))
  clear hi hz0 hz1 hz2
  have HL := Lib.hid hl
  have HS := Lib.hid hs
  clear hl hs
  go_enter Tryz.func51, Tryz.ntmps51
  go_wp2_with fail
  go_loopw [3, 4] (fun out i wr => ∃ (k : Nat), k ≤ l.length ∧ i = .int .i64 k ∧ Hid (Own wr w.heap.size out ((l.take k).map pairB)) ∧ Below w.heap.size w wr) (fun _ i _ => l.length - (intOf i).toNat)
  case atStart => exact ⟨0, Nat.zero_le _, rfl, World.ownsRow_nil _ _ _ _, Below.refl _ _⟩
  case round =>
    obtain ⟨k, hk, rfl, HO, hbl⟩ := hrel
    by_cases hlt : k < l.length
    · obtain ⟨b, o, rfl, hb, hL⟩ := HL.out (ne_of_lt hlt)
      obtain ⟨e1, e2⟩ := (hL.on hb hbl) k hlt
      have i1 : (k : Int) < (l.length : Int) := by omega
      have i2 : (0 : Int) ≤ (k : Int) := by omega
      have hz := hbl.size
      have hb' : b < wr.heap.size := Nat.lt_of_lt_of_le hb hz
      obtain ⟨z1, z2⟩ := HS.out _ (List.getElem_mem hlt)
      have HK : Hid ((l.take (k + 1)).map pairB = (l.take k).map pairB ++ [(l[k]).1 ++ ⟨#[61]⟩ ++ (l[k]).2]) := by
        show _ = _
        rw [List.take_succ_eq_append_getElem hlt, List.map_append]
        rfl
      have hkl : ((l.take k).map pairB).length ≤ 1000 := by rw [List.length_map, List.length_take]; omega
      generalize l[k] = x at *
      generalize (l.take k).map pairB = L at *
      have hne : u3.ownBlock ≠ some b := fun e => by
        have := (HO.out.lt b e).1
        omega
      have hn1 : b ≠ wr.heap.size := by omega
      have a1 : ∀ w', Sem.run Tryz.prog (Op.stringOp .add x.1 ⟨#[61]⟩) w' = .ok (.string (x.1 ++ ⟨#[61]⟩)) w' := fun w' => run_string_add_sum w' _ _ (by rw [show (⟨#[61]⟩ : ByteArray).size = 1 from rfl]; omega)
      have a2 : ∀ w', Sem.run Tryz.prog (Op.stringOp .add (x.1 ++ ⟨#[61]⟩) x.2) w' = .ok (.string (x.1 ++ ⟨#[61]⟩ ++ x.2)) w' := fun w' => run_string_add_sum w' _ _ (by rw [ba_size, show (⟨#[61]⟩ : ByteArray).size = 1 from rfl]; omega)
      generalize x.1 ++ ⟨#[61]⟩ = y at *
      generalize y ++ x.2 = p at *
      clear hL z1 z2
      go_wp2_with fail
      go_region_held3 (fun w' => w'.cell? ⟨b, o + k * 2, none⟩ = some (.string x.1) ∧ w'.cell? ⟨b, o + k * 2 + 1, none⟩ = some (.string x.2))
        (first
          | go_keep
          | (go_split_ands
             refine ⟨?_, ?_⟩
             · (rw [hgrow.cell_far _ (by simp; omega) (Ne.symm hne)]; assumption)
             · (rw [hgrow.cell_far _ (by simp; omega) (Ne.symm hne)]; assumption)))
        ((refine step_append_lies _ (by rfl) _ _ _ (by rfl) w.heap.size 9 i0 _ 1 16 Tryz.underlying23 HI.out.1 HI.out.2.1 HI.out.2.2.1 HI.out.2.2.2 rfl (by omega) _ L.length (L.map Value.string) (by rfl) ((HO.out.alloc _).drew)
            ⟨wr.heap.size, 0, none⟩ 1 1 [.string p] (by rfl) (by rfl) (World.news_of_block (cs := #[.string p]) (t := 9) (fr := (0, 0)) (heap_alloc_new wr _)) (one1 _)
            (by omega) (by unfold maxLen; omega) (by omega) (by simp; omega) (wr.heap.size + 1) (by simp) ?_; intro gg cap w1 hown1 hgrow hat hgl))
      have HO2 := Lib.hid (own_next hown1)
      have hb2 : Below w.heap.size w w1 := ((hbl.alloc hz _).drew).grown hgrow (by simp; omega) (fun k hk => (HO.out.lt k hk).1)
      clear hown1 hgrow HO hbl
      go_wp2_with fail
      exact ⟨⟨k + 1, by omega, by go_num, by rw [HK.out]; exact HO2, hb2⟩, by simp [intOf]; omega⟩
    · have hr := own_row HO.out
      rw [List.take_of_length_le (by omega)] at hr
      clear HO HL HS HI
      go_wp2_with (first | (go_at_call 35; refine (refJoin_any _ (l.map pairB) ⟨#[44]⟩ _ hr (by rw [List.length_map]; omega) hj).mono ?_; rintro e w2 ⟨rfl, rfl⟩))
      go_ret
      exact ⟨rfl, hbl⟩
theorem pairB_list (t : Tag) : (pairB t).data.toList = pair t := by
  unfold pairB pair nm vl
  rw [ByteArray.data_append, ByteArray.data_append]
  simp
theorem textB_list (l : List Tag) : (textB l).data.toList = text l := by
  unfold textB joinB text
  rw [ba_list, List.map_map]
  congr 1
  apply List.map_congr_left
  intro t _
  exact pairB_list t
theorem text_size (l : List Tag) (M : Nat) (h : ∀ t ∈ l, t.1.size + t.2.size + 1 ≤ M) : (textB l).size ≤ l.length * (M + 1) := by
  rw [size_list, textB_list]
  cases l with
  | nil => simp [text, Lib.join_nil]
  | cons t r =>
    have hp : ∀ u ∈ t :: r, (pair u).length ≤ M := by
      intro u hu
      have := h u hu
      unfold pair nm vl
      rw [List.length_append, List.length_cons, ← size_list, ← size_list]
      omega
    have hl := lens_le M (r.map pair) (by
      intro x hx
      obtain ⟨u, hu, rfl⟩ := List.mem_map.1 hx
      exact hp u (by simp [hu]))
    have h0 := hp t (by simp)
    unfold text
    rw [List.map_cons, Lib.join_cons, List.length_append, Lib.joinTail_length]
    rw [List.length_map] at hl
    have e1 : (([44] : List UInt8).length * (r.map pair).length) = r.length := by simp
    have e2 : (r.length + 1) * (M + 1) = r.length * M + r.length + M + 1 := by rw [Nat.add_mul, Nat.mul_add]; omega
    rw [e1, List.length_cons, e2]
    omega
theorem right_small {l : List Tag} (h : right l = true) : l.length ≤ 4 ∧ ∀ t ∈ l, t.1.size ≤ 12 ∧ t.2.size ≤ 12 := by
  simp only [right, Bool.and_eq_true, decide_eq_true_eq] at h
  refine ⟨h.1.2, fun t ht => ?_⟩
  have hm := List.all_eq_true.1 h.1.1 t ht
  simp only [may, Bool.and_eq_true] at hm
  have h1 := Word.name_value _ hm.1
  have h2 := hm.2
  simp only [Word.value, Word.fits, Bool.and_eq_true, decide_eq_true_eq] at h1 h2
  rw [size_list, size_list]
  exact ⟨h1.1.2, h2.1.2⟩
end Go.Proofs.YtfohknpjlkjbbaaGreatDoor
