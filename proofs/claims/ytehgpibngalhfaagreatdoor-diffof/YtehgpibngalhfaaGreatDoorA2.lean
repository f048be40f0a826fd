/- Carried over from earlier layers: walks and lemmas. -/
import Derived.Test.YtehgpibngalhfaaGreatDoorA1
import Derived.Test.YtehgpibngalhfaaGreatDoorShelf
import Derived.Lib.OwnBridge
import Derived.BigQuiet
import Derived.OwnWalk
import Derived.Deep.AppendLies
import Derived.Shelf.SlSortCmp.QuietGrown
namespace Go.Proofs.YtehgpibngalhfaaGreatDoor
open Go Go.RowKit Go.Lib Go.Sort
/-- What the walks ask of the world: the library's variable MaxLen holds an int. -/
def Env (w : World) : Prop := ∃ m : Int, w.cell? ⟨0, 0, none⟩ = some (.int .i64 m)
theorem Env.lt {w : World} (h : Env w) : 0 < w.heap.size := by
  obtain ⟨m, hm⟩ := h
  exact World.block_lt_of_cell? _ _ hm
theorem Env.go {w w1 : World} (h : Env w) (hb : Below w.heap.size w w1) : Env w1 := by
  have hz := h.lt
  obtain ⟨m, hm⟩ := h
  exact ⟨m, by rw [hb.cell (p := ⟨0, 0, none⟩) hz]; exact hm⟩
theorem Env.alloc {w : World} (h : Env w) (o : Obj) : Env (w.alloc o) := h.go ((Below.refl _ _).alloc (Nat.le_refl _) _)
/-- A list of bytes as a string; lists of them. -/
def ba (l : List UInt8) : ByteArray := ⟨l.toArray⟩
theorem ba_list (l : List UInt8) : (ba l).data.toList = l := by simp [ba]
theorem ba_eq (s : ByteArray) : ba s.data.toList = s := by apply ByteArray.ext; simp [ba]
theorem ba_map (l : List ByteArray) : (l.map (·.data.toList)).map ba = l := by
  rw [List.map_map]
  conv => rhs; rw [← List.map_id l]
  apply List.map_congr_left
  intro x _
  exact ba_eq x
theorem map_ba (l : List (List UInt8)) : (l.map ba).map (·.data.toList) = l := by
  rw [List.map_map]
  conv => rhs; rw [← List.map_id l]
  apply List.map_congr_left
  intro x _
  exact ba_list x
def partsB (c : UInt8) (s : ByteArray) : List ByteArray := (Word.parts c s.data.toList).map ba
def fieldsB (s : ByteArray) : List ByteArray := (Word.fields s.data.toList).map ba
theorem split_parts (c : UInt8) (s : ByteArray) : Lib.splitB ⟨#[c]⟩ 0 (Lib.countB s ⟨#[c]⟩) s = partsB c s := by
  have h := Lib.splitB_data ⟨#[c]⟩ 0 (Lib.countB s ⟨#[c]⟩) s
  have h2 : Lib.splitK [c] 0 (Lib.count s.data.toList [c]) s.data.toList = Word.parts c s.data.toList := Word.splitK_parts c _
  have h3 : (Lib.splitB ⟨#[c]⟩ 0 (Lib.countB s ⟨#[c]⟩) s).map (·.data.toList) = Word.parts c s.data.toList := h.trans h2
  rw [partsB, ← h3, ba_map]
theorem count_parts (c : UInt8) (s : ByteArray) : Lib.countB s ⟨#[c]⟩ + 1 = (partsB c s).length := by
  rw [← split_parts, Lib.splitB_all ⟨#[c]⟩ (Nat.le_refl 1) 0 _ s rfl]
theorem parts_le (c : UInt8) (s : ByteArray) : (partsB c s).length ≤ s.size + 1 := by
  rw [← count_parts]
  have := Lib.countB_le ⟨#[c]⟩ (Nat.le_refl 1) s.size s (Nat.le_refl _)
  omega
theorem conv1 (w : World) (c : UInt8) : Sem.run Tryz.prog (convert 66 9 (Value.slice (some { block := w.heap.size, off := 0 }) 1 1)) (w.alloc (Obj.cells #[Value.int IntKind.u8 (c.toNat : Int)] 5)) = .ok (.string ⟨#[c]⟩) (w.alloc (Obj.cells #[Value.int IntKind.u8 (c.toNat : Int)] 5)) := by
  exact run_convert_bytes_back (P := Tryz.prog) (w.alloc (Obj.cells #[Value.int IntKind.u8 (c.toNat : Int)] 5)) 66 9 5 ⟨w.heap.size, 0, none⟩ 1 [c] Tryz.underlying66 Tryz.underlying5 Tryz.underlying9 (fun j hj => by
    have hj0 : j = 0 := by simp at hj; exact hj
    subst hj0
    simp only [List.getElem_cons_zero]
    simp [Addr.add])
/-- The world behind a split. -/
def splitW (c : UInt8) (s : ByteArray) (w : World) : World := (w.alloc (.cells #[.int .u8 (c.toNat : Int)] 5)).alloc (.cells ((partsB c s).map Value.string).toArray 9)
theorem splitW_size (c : UInt8) (s : ByteArray) (w : World) : (splitW c s w).heap.size = w.heap.size + 2 := by simp [splitW]
theorem splitW_below (c : UInt8) (s : ByteArray) (w : World) : Below w.heap.size w (splitW c s w) := ((Below.refl _ _).alloc (Nat.le_refl _) _).alloc (by simp) _
theorem splitW_lies (c : UInt8) (s : ByteArray) (w : World) : Lies (splitW c s w) (w.heap.size + 1) 0 (partsB c s) := by
  intro j x hx
  have hz : (w.alloc (.cells #[.int .u8 (c.toNat : Int)] 5)).heap.size = w.heap.size + 1 := by simp
  have h := cell_of_row (splitW c s w) (w.heap.size + 1) (0 + j) ((partsB c s).map Value.string).toArray 9 (0, 0) (by unfold splitW; rw [← hz]; exact heap_alloc_new _ _)
  rw [h]
  simp [hx]
set_option maxRecDepth 100000 in
set_option maxHeartbeats 400000 in
theorem split_any (s : ByteArray) (c : UInt8) (w : World) (hE : Env w) (hs : s.size < 4294967281) :
    Calls Tryz.prog 78 #[.string s, .int .u8 (c.toNat : Int)] w fun e w' => e = .returned (.slice (some ⟨w.heap.size + 1, 0, none⟩) (partsB c s).length (partsB c s).length) ∧ w' = splitW c s w := by
  obtain ⟨m, hm⟩ := hE.alloc (.cells #[.int .u8 (c.toNat : Int)] 5)
  have hC := Tryz.strings_Split s ⟨#[c]⟩ m _ hs hm (Nat.le_refl 1)
  rw [split_parts, count_parts] at hC
  have HC := Lib.hid hC
  have hcv := conv1 w c
  clear hC hm hE
  go_enter Tryz.func78, Tryz.ntmps78
  go_wp2_with (go_at_call 40; refine (HC.out).mono ?_; rintro e w' ⟨rfl, rfl⟩)
  go_ret
  exact ⟨by simp, rfl⟩
def joinB (sep : ByteArray) (l : List ByteArray) : ByteArray := ba (Lib.join (l.map (·.data.toList)) sep.data.toList)
theorem joinB_size (sep : ByteArray) (l : List ByteArray) : (joinB sep l).size = (Lib.join (l.map (·.data.toList)) sep.data.toList).length := by rw [size_list, joinB, ba_list]
set_option maxRecDepth 100000 in
set_option maxHeartbeats 400000 in
theorem join_any (b o c : Nat) (l : List ByteArray) (sep : ByteArray) (w : World) (hL : Lies w b o l) (hb : b < w.heap.size) (hN : l.length ≤ 140737488355328) (hcap : l.length ≤ c) (hlen : (joinB sep l).size ≤ 140737488355328) :
    Calls Tryz.prog 81 #[.string sep, .slice (some ⟨b, o, none⟩) l.length c] w fun e w' => e = .returned (.string (joinB sep l)) ∧ Below w.heap.size w w' := by
  have HC := Lib.hid (Tryz.strings_Join b o c l sep w hL hb hN hcap (by rw [← joinB_size]; exact hlen))
  clear hlen
  have HJ : Hid (joinB sep l = ⟨(Lib.join (l.map (·.data.toList)) sep.data.toList).toArray⟩) := rfl
  generalize joinB sep l = J at HJ ⊢
  rw [← HJ.out] at HC
  clear HJ
  go_enter Tryz.func81, Tryz.ntmps81
  go_wp2_with (go_at_call 31; refine (HC.out).mono ?_; rintro e w' ⟨rfl, n⟩)
  go_ret
  exact ⟨rfl, n⟩
set_option maxRecDepth 100000 in
set_option maxHeartbeats 400000 in
theorem join_zero (a : Option Addr) (c : Nat) (sep : ByteArray) (w : World) :
    Calls Tryz.prog 81 #[.string sep, .slice a 0 c] w fun e w' => e = .returned (.string ⟨#[]⟩) ∧ w' = w := by
  have HC := Lib.hid (Tryz.strings_Join_none a c sep w)
  go_enter Tryz.func81, Tryz.ntmps81
  go_wp2_with (go_at_call 31; refine (HC.out).mono ?_; rintro e w' ⟨rfl, rfl⟩)
  go_ret
  exact ⟨rfl, rfl⟩
def emptyB (s : ByteArray) : Bool := s.data.toList.isEmpty
theorem kept_fields (s : ByteArray) : ((partsB 32 s).filter fun x => !emptyB x) = fieldsB s := by
  rw [partsB, fieldsB, Word.fields, List.filter_map]
  congr 1
end Go.Proofs.YtehgpibngalhfaaGreatDoor
namespace Go.Proofs.YtehgpibngalhfaaGreatDoor
open Go Go.RowKit
open Go Go.RowKit
theorem joinB_take (sep : ByteArray) (l : List ByteArray) (k : Nat) (hk : k < l.length) : joinB sep (l.take (k + 1)) = (if 0 < k then joinB sep (l.take k) ++ sep else joinB sep (l.take k)) ++ l[k] := by
  have h := Word.join_take (l.map (·.data.toList)) sep.data.toList k (l[k]).data.toList (by simp [List.getElem?_eq_getElem hk])
  apply ByteArray.ext
  have e : ∀ a b : ByteArray, a.data.toList = b.data.toList → a.data = b.data := fun a b h => by
    have := congrArg List.toArray h
    simpa using this
  apply e
  unfold joinB
  rw [ba_list, List.map_take, h]
  split <;> simp [ByteArray.data_append, ba_list, List.map_take]
theorem joinB_le (sep : ByteArray) (l : List ByteArray) (k : Nat) : (joinB sep (l.take k)).size ≤ (joinB sep l).size := by
  rw [joinB_size, joinB_size, List.map_take]
  exact Word.join_len_take _ _ k
theorem joinB_nil (sep : ByteArray) : joinB sep [] = ⟨#[]⟩ := rfl
theorem ba_size (a b : ByteArray) : (a ++ b).size = a.size + b.size := ByteArray.size_append
set_option maxRecDepth 100000 in
set_option maxHeartbeats 400000 in
theorem refJoin_zero (a : Option Addr) (c : Nat) (sep : ByteArray) (w : World) :
    Calls Tryz.prog 34 #[.string sep, .slice a 0 c] w fun e w' => e = .returned (.string ⟨#[]⟩) ∧ w' = w := by
  go_enter Tryz.func34, Tryz.ntmps34
  go_wp2
  refine wp_loop_rounds 1 ?_
  rw [rounds_succ]
  go_wp2
  go_ret
  exact ⟨rfl, rfl⟩
set_option maxRecDepth 100000 in
set_option maxHeartbeats 800000 in
theorem refJoin_cells (b o c : Nat) (l : List ByteArray) (sep : ByteArray) (w : World) (hL : Lies w b o l) (hn : l.length ≤ 1000000) (hlen : (joinB sep l).size ≤ 140737488355328) :
    Calls Tryz.prog 34 #[.string sep, .slice (some ⟨b, o, none⟩) l.length c] w fun e w' => e = .returned (.string (joinB sep l)) ∧ w' = w := by
  have HL := Lib.hid hL
  clear hL
  obtain ⟨J, HJ⟩ : ∃ J, Hid (joinB sep l = J) := ⟨_, rfl⟩
  rw [HJ.out] at hlen ⊢
  go_enter Tryz.func34, Tryz.ntmps34
  go_wp2
  go_loop [5, 6] (fun s i => ∃ (k : Nat) (S : ByteArray), k ≤ l.length ∧ i = .int .i64 k ∧ s = .string S ∧ S.size ≤ 140737488355328 ∧ Hid (S = joinB sep (l.take k))) (fun _ i => l.length - (intOf i).toNat)
  case atStart => exact ⟨0, ⟨#[]⟩, Nat.zero_le _, rfl, rfl, by decide, rfl⟩
  case round =>
    obtain ⟨k, S, hk, rfl, rfl, hS, HS⟩ := hrel
    by_cases hlt : k < l.length
    · have e1 := HL.out.at k hlt
      have i1 : (k : Int) < (l.length : Int) := by omega
      have i2 : (0 : Int) ≤ (k : Int) := by omega
      have hle := joinB_le sep l (k + 1)
      rw [HJ.out, joinB_take sep l k hlt, ← HS.out] at hle
      have HT := Lib.hid (joinB_take sep l k hlt)
      rw [← HS.out] at HT
      by_cases hk0 : 0 < k
      · have i3 : (0 : Int) < (k : Int) := by omega
        rw [if_pos hk0, ba_size, ba_size] at hle
        have HT := Lib.hid HT.out
        rw [if_pos hk0] at HT
        generalize l[k] = x at *
        go_wp2_with fail
        exact ⟨⟨k + 1, _, by omega, by go_num, rfl, by rw [ba_size, ba_size]; omega, (HT.out).symm⟩, by simp [intOf]; omega⟩
      · have i3 : ¬ (0 : Int) < (k : Int) := by omega
        rw [if_neg hk0, ba_size] at hle
        have HT := Lib.hid HT.out
        rw [if_neg hk0] at HT
        generalize l[k] = x at *
        go_wp2_with fail
        exact ⟨⟨k + 1, _, by omega, by go_num, rfl, by rw [ba_size]; omega, (HT.out).symm⟩, by simp [intOf]; omega⟩
    · have HF : Hid (S = J) := by
        show S = J
        rw [HS.out, List.take_of_length_le (by omega), HJ.out]
      go_wp2_with fail
      go_ret
      exact ⟨ret_str HF.out, rfl⟩
theorem refJoin_any (v : Value) (l : List ByteArray) (sep : ByteArray) (w : World) (h : Row w v l) (hn : l.length ≤ 1000000) (hlen : (joinB sep l).size ≤ 140737488355328) :
    Calls Tryz.prog 34 #[.string sep, v] w fun e w' => e = .returned (.string (joinB sep l)) ∧ w' = w := by
  obtain ⟨a, c, rfl, hc, hl⟩ := h
  rcases List.eq_nil_or_concat l with hnil | ⟨l0, x0, hcons⟩
  · subst hnil
    rw [joinB_nil]
    exact refJoin_zero a c sep w
  · have hne : l ≠ [] := by rw [hcons]; simp
    obtain ⟨b, o, rfl, hb, hL⟩ := hl hne
    exact refJoin_cells b o c l sep w hL hn hlen
theorem join_row (v : Value) (l : List ByteArray) (sep : ByteArray) (w : World) (h : Row w v l) (hn : l.length ≤ 1000000) (hlen : (joinB sep l).size ≤ 140737488355328) :
    Calls Tryz.prog 81 #[.string sep, v] w fun e w' => e = .returned (.string (joinB sep l)) ∧ Below w.heap.size w w' := by
  obtain ⟨a, c, rfl, hc, hl⟩ := h
  rcases List.eq_nil_or_concat l with hnil | ⟨l0, x0, hcons⟩
  · subst hnil
    rw [joinB_nil]
    exact (join_zero a c sep w).mono fun e w' ⟨he, hw⟩ => ⟨he, hw ▸ Below.refl _ _⟩
  · have hne : l ≠ [] := by rw [hcons]; simp
    obtain ⟨b, o, rfl, hb, hL⟩ := hl hne
    exact join_any b o c l sep w hL hb (by omega) hc hlen
end Go.Proofs.YtehgpibngalhfaaGreatDoor
namespace Go.Proofs.YtehgpibngalhfaaGreatDoor
open Go Go.RowKit
abbrev Own (w : World) (base : Nat) (v : Value) (l : List ByteArray) : Prop := w.ownsRow base 9 1 v l.length (l.map Value.string)
theorem addr_add (b o j : Nat) : (⟨b, o, none⟩ : Addr).add j = ⟨b, o + j, none⟩ := by simp [Addr.add]
theorem own_row {w : World} {base : Nat} {v : Value} {l : List ByteArray} (h : Own w base v l) : Row w v l := by
  rcases h.2 with ⟨h0, h1⟩ | ⟨g, cap, cur, hv, hb, hg, hc, _, _, _⟩
  · have hl : l = [] := List.length_eq_zero_iff.1 h1
    subst hl
    exact ⟨none, 0, h0, Nat.le_refl _, fun hne => absurd rfl hne⟩
  · refine ⟨_, cap, hv, hc, fun _ => ⟨g, 0, rfl, ?_, ?_⟩⟩
    · rcases Nat.lt_or_ge g w.heap.size with hlt | hge
      · exact hlt
      · rw [Array.getElem?_eq_none hge] at hg; cases hg
    · intro j x hx
      have := h.cells (g := g) (by rw [hv]; rfl) j (.string x) (by simp [hx])
      rw [addr_add] at this
      exact this
set_option maxRecDepth 100000 in
theorem info9 : ∃ i, Tryz.prog.info? 9 = some i ∧ i.zero = some (.string ⟨#[]⟩) ∧ i.size = 1 ∧ i.bytes = 16 := ⟨_, rfl, rfl, rfl, rfl⟩
theorem new1 (w : World) (x : ByteArray) : ∀ j u, [Value.string x][j]? = some u → (w.alloc (.cells #[.string x] 9)).cell? ((⟨w.heap.size, 0, none⟩ : Addr).add j) = some u := by
  intro j u h
  match j, h with
  | 0, h => simp at h; subst h; simp [Addr.add]
  | j + 1, h => simp at h
theorem one1 (x : ByteArray) : ∀ u ∈ [Value.string x], u.oneCell' = true := by
  intro u hu
  simp at hu
  subst hu
  rfl
theorem own_next {w' : World} {base : Nat} {v' : Value} {l : List ByteArray} {x : ByteArray} (h : w'.ownsRow base 9 1 v' (l.length + 1) (l.map Value.string ++ [Value.string x])) : Own w' base v' (l ++ [x]) := by
  show w'.ownsRow base 9 1 v' (l ++ [x]).length ((l ++ [x]).map Value.string)
  simpa using h
/-- What an append of one text leaves. -/
theorem own_below {w W w' : World} {base : Nat} {v : Value} {l : List ByteArray} {x : ByteArray} (hd : Below base w W) (hb : base ≤ W.heap.size) (h : Own W base v l) (hg : (W.alloc (.cells #[.string x] 9)).grownBy w' v.ownBlock) : Below base w w' :=
  (hd.alloc hb _).grown hg (by simp; omega) (fun k hk => (h.lt k hk).1)
theorem ext_list (s : ByteArray) (f k : Nat) : (s.extract f k).data.toList = (s.data.toList.drop f).take (k - f) := by
  rw [ByteArray.data_extract, Array.toList_extract, List.extract_eq_take_drop]
theorem ext_nil (s : ByteArray) (k : Nat) : (s.extract k k).data.toList = [] := by rw [ext_list]; simp
theorem ext_on (s : ByteArray) (f k : Nat) (hf : f ≤ k) (hk : k < s.size) : (s.extract f (k + 1)).data.toList = (s.extract f k).data.toList ++ [s[k]] := by
  rw [ext_list, ext_list, show k + 1 - f = (k - f) + 1 from by omega, List.take_add_one]
  congr 1
  have hk' : k < s.data.toList.length := by rw [← size_list]; exact hk
  rw [List.getElem?_drop, show f + (k - f) = k from by omega, List.getElem?_eq_getElem hk']
  rfl
theorem drop_on (s : ByteArray) (k : Nat) (hk : k < s.size) : s.data.toList.drop k = s[k] :: s.data.toList.drop (k + 1) := by
  have hk' : k < s.data.toList.length := by rw [← size_list]; exact hk
  rw [List.drop_eq_getElem_cons hk']
  rfl
/-- How far the document's Split has come: the parts done, and what is still ahead. -/
def Split (c : UInt8) (s : ByteArray) (f k : Nat) (done : List ByteArray) : Prop :=
  done.map (·.data.toList) ++ Word.onto (s.extract f k).data.toList (Word.parts c (s.data.toList.drop k)) = Word.parts c s.data.toList
theorem split_start (c : UInt8) (s : ByteArray) : Split c s 0 0 [] := by
  unfold Split
  rw [ext_nil, List.drop_zero, Word.onto_nil _ (Word.parts_ne _ _)]
  rfl
theorem split_hit {c : UInt8} {s : ByteArray} {f k : Nat} {done : List ByteArray} (h : Split c s f k done) (hk : k < s.size) (hc : s[k] = c) : Split c s (k + 1) (k + 1) (done ++ [s.extract f k]) := by
  unfold Split at h ⊢
  rw [drop_on s k hk, hc, Word.on_hit] at h
  rw [ext_nil, ← h]
  simp
theorem split_miss {c : UInt8} {s : ByteArray} {f k : Nat} {done : List ByteArray} (h : Split c s f k done) (hf : f ≤ k) (hk : k < s.size) (hc : s[k] ≠ c) : Split c s f (k + 1) done := by
  unfold Split at h ⊢
  rw [drop_on s k hk, Word.on_miss _ _ _ _ hc] at h
  rw [ext_on s f k hf hk]
  exact h
theorem split_end {c : UInt8} {s : ByteArray} {f k : Nat} {done : List ByteArray} (h : Split c s f k done) (hk : k = s.size) : done ++ [s.extract f s.size] = partsB c s := by
  subst hk
  unfold Split at h
  rw [List.drop_of_length_le (by rw [← size_list]; exact Nat.le_refl _), Word.parts] at h
  rw [partsB, ← h, List.map_append, ba_map]
  rw [Word.onto, List.append_nil, List.map_cons, List.map_nil, ba_eq]
theorem byte_ne {a b : UInt8} (h : a ≠ b) : ((a.toNat : Int) == (b.toNat : Int)) = false := by
  simp only [beq_eq_false_iff_ne, ne_eq]
  intro e
  exact h (UInt8.toNat_inj.1 (by omega))
set_option maxRecDepth 100000 in
set_option maxHeartbeats 1000000 in
theorem refSplit_any (s : ByteArray) (c : UInt8) (w : World) (hs : s.size ≤ 1000000) :
    Calls Tryz.prog 42 #[.string s, .int .u8 (c.toNat : Int)] w fun e w' => (∃ v, e = .returned v ∧ Row w' v (partsB c s)) ∧ Below w.heap.size w w' := by
  obtain ⟨i0, hi, hz0, hz1, hz2⟩ := info9
  have HI := Lib.hid (And.intro hi (And.intro hz0 (And.intro hz1 hz2)))
  clear hi hz0 hz1 hz2
  go_enter Tryz.func42, Tryz.ntmps42
  go_wp2
  go_loopw [5, 6, 7] (fun out fr i wr => ∃ (k f : Nat) (done : List ByteArray), f ≤ k ∧ k ≤ s.size ∧ done.length ≤ k ∧ fr = .int .i64 f ∧ i = .int .i64 k ∧ Hid (Own wr w.heap.size out done) ∧ Hid (Split c s f k done) ∧ Below w.heap.size w wr) (fun _ _ i _ => s.size - (intOf i).toNat)
  case atStart => exact ⟨0, 0, [], Nat.le_refl _, Nat.zero_le _, Nat.le_refl _, rfl, rfl, World.ownsRow_nil _ _ _ _, split_start c s, Below.refl _ _⟩
  case round =>
    obtain ⟨k, f, done, hf, hk, hdn, rfl, rfl, HO, HS, hb⟩ := hrel
    by_cases hlt : k < s.size
    · by_cases hc : s[k] = c
      · have hq : (((s[k]).toNat : Int) == (c.toNat : Int)) = true := by rw [hc]; simp
        have HS2 := Lib.hid (split_hit HS.out hlt hc)
        have hbz := hb.size
        clear HS hc
        go_wp2_with (first | (at_builtin; refine wpList_append_own _ rfl _ _ 51 rfl w.heap.size 9 i0 (.string ⟨#[]⟩) 1 16 Tryz.underlying51 HI.out.1 HI.out.2.1 HI.out.2.2.1 HI.out.2.2.2 rfl (by decide) _ _ _ rfl (HO.out.alloc _) ⟨wr.heap.size, 0, none⟩ 1 1 [Value.string (s.extract f k)] rfl rfl (new1 wr _) (one1 _) (by unfold maxLen; omega) (by omega) (by simp; omega) ?_; intro v' w2 hown hgrow hnil))
        have HO2 := Lib.hid (own_next hown)
        have hb2 := own_below hb hbz HO.out hgrow
        clear hown hgrow hnil HO hb
        go_wp2_with fail
        exact ⟨⟨k + 1, k + 1, _, by omega, by omega, by simp; omega, by go_num, by go_num, HO2, HS2, hb2⟩, by simp [intOf]; omega⟩
      · have hq := byte_ne hc
        have HS2 := Lib.hid (split_miss HS.out hf hlt hc)
        clear HS hc
        go_wp2_with fail
        exact ⟨⟨k + 1, f, done, by omega, by omega, by omega, rfl, by go_num, HO, HS2, hb⟩, by simp [intOf]; omega⟩
    · have HE := Lib.hid (split_end HS.out (by omega))
      have hbz := hb.size
      clear HS
      go_wp2_with (first | (at_builtin; refine wpList_append_own _ rfl _ _ 51 rfl w.heap.size 9 i0 (.string ⟨#[]⟩) 1 16 Tryz.underlying51 HI.out.1 HI.out.2.1 HI.out.2.2.1 HI.out.2.2.2 rfl (by decide) _ _ _ rfl (HO.out.alloc _) ⟨wr.heap.size, 0, none⟩ 1 1 [Value.string (s.extract f s.size)] rfl rfl (new1 wr _) (one1 _) (by unfold maxLen; omega) (by omega) (by simp; omega) ?_; intro v' w2 hown hgrow hnil))
      have hr := own_row (own_next hown)
      have hb2 := own_below hb hbz HO.out hgrow
      rw [HE.out] at hr
      clear hown hgrow hnil HO hb HE
      go_wp2_with fail
      go_ret
      exact ⟨⟨_, rfl, hr⟩, hb2⟩
def keptB (l : List ByteArray) : List ByteArray := l.filter fun x => !emptyB x
theorem kept_take (l : List ByteArray) (k : Nat) (hk : k < l.length) : keptB (l.take (k + 1)) = if emptyB l[k] = true then keptB (l.take k) else keptB (l.take k) ++ [l[k]] := by
  rw [keptB, List.take_succ_eq_append_getElem hk, List.filter_append]
  cases h : emptyB l[k] <;> simp [keptB, h]
theorem kept_len (l : List ByteArray) (k : Nat) : (keptB (l.take k)).length ≤ l.length := by
  have h1 : (keptB (l.take k)).length ≤ (l.take k).length := List.length_filter_le _ _
  have h2 : (l.take k).length ≤ l.length := List.length_take_le' _ _
  omega
theorem empty_eq {x : ByteArray} (h : emptyB x = true) : x = ⟨#[]⟩ := by
  apply ByteArray.ext
  have : x.data.toList = [] := by simpa [emptyB] using h
  simpa using this
end Go.Proofs.YtehgpibngalhfaaGreatDoor
namespace Go.Proofs.YtehgpibngalhfaaGreatDoor
open Go Go.RowKit Tg Pk
theorem set_take {α : Type} (xs : List α) (k : Nat) (u : α) (h : k < xs.length) : (xs.set k u).take (k + 1) = xs.take k ++ [u] := by
  have hl : k < (xs.set k u).length := by simpa using h
  rw [List.take_succ_eq_append_getElem hl, List.getElem_set_self, List.take_set_of_le (Nat.le_refl k)]
theorem step_append_own {P : Program} {ops : Array Oper} {o : Oper} {a : Act} {K : Act → World → Prop} {Q : Exit → Act → World → Prop} {E : Prop} (w : World) (hgd : o.guard = none) (s x : Operand) (t : TypeId)
    (ho : o.op = .call { callee := .builtin .append, args := #[s, x], argTypes := #[t, t] })
    (base : Nat) (e : TypeId) (i : TypeInfo) (z : Value) (size bytes : Nat) (ht : P.underlying t = some (.slice e)) (hi : P.info? e = some i) (hz : i.zero = some z)
    (hsize : i.size = size) (hby : i.bytes = bytes) (hzs : z.cells.size = size) (hsz : 0 < size)
    (v : Value) (n : Nat) (xs : List Value) (hs : a.eval s = v) (hown : w.ownsRow base e size v n xs)
    (ad : Addr) (m c : Nat) (news : List Value) (hx : a.eval x = .slice (some ad) m c) (hl : news.length = m * size) (hnews : ∀ j u, news[j]? = some u → w.cell? (ad.add j) = some u) (h1 : ∀ u ∈ news, u.oneCell' = true)
    (h63 : n + m ≤ maxLen) (hbytes : (n + m) * bytes ≤ 140737488355328) (hbase : base ≤ w.heap.size)
    (h : ∀ v' w', w'.ownsRow base e size v' (n + m) (xs ++ news) → w.grownBy w' v.ownBlock → (v' = .slice none 0 0 ↔ v = .slice none 0 0 ∧ m = 0) → K (a.put o.dst v') w') :
    if Region.wanted o (yielded ops a.tmps) = true then Oper.wp P o a w K Q else E := by
  have hw : Region.wanted o (yielded ops a.tmps) = true := by simp [Region.wanted, hgd]
  rw [if_pos hw]
  exact wp_append_own w s x t ho base e i z size bytes ht hi hz hsize hby hzs hsz v n xs hs hown ad m c news hx hl hnews h1 h63 hbytes hbase h
theorem parts_small (c : UInt8) : ∀ (l : List UInt8) (p : List UInt8), p ∈ Word.parts c l → p.length ≤ l.length
  | [], p, h => by
    rw [Word.parts] at h
    simp at h
    subst h
    exact Nat.le_refl _
  | b :: l, p, h => by
    have ih := parts_small c l
    by_cases hb : b = c
    · subst hb
      rw [Word.parts_hit] at h
      rcases List.mem_cons.1 h with rfl | h
      · simp
      · have := ih p h
        simp
        omega
    · rw [Word.parts_miss _ _ _ hb] at h
      cases hp : Word.parts c l with
      | nil => exact absurd hp (Word.parts_ne c l)
      | cons q r =>
        rw [hp] at h ih
        rw [Word.onto] at h
        rcases List.mem_cons.1 h with rfl | h
        · have := ih q (by simp)
          simp
          omega
        · have := ih p (by simp [h])
          simp
          omega
theorem parts_many (c : UInt8) : ∀ l : List UInt8, (Word.parts c l).length ≤ l.length + 1
  | [] => by rw [Word.parts]; simp
  | b :: l => by
    have ih := parts_many c l
    by_cases hb : b = c
    · subst hb
      rw [Word.parts_hit]
      simp
      omega
    · rw [Word.parts_miss _ _ _ hb]
      cases hp : Word.parts c l with
      | nil => exact absurd hp (Word.parts_ne c l)
      | cons q r =>
        rw [hp] at ih
        rw [Word.onto]
        simp at ih ⊢
        omega
theorem parts_get {s : ByteArray} {k : Nat} (hk : k < (partsB 44 s).length) (hk2 : k < (Word.parts 44 s.data.toList).length) : (partsB 44 s)[k] = ba (Word.parts 44 s.data.toList)[k] := by
  have h : (partsB 44 s)[k]? = some (ba (Word.parts 44 s.data.toList)[k]) := by
    unfold partsB
    rw [List.getElem?_map, List.getElem?_eq_getElem hk2]
    rfl
  rw [List.getElem?_eq_getElem hk] at h
  exact Option.some.inj h
theorem partsB_len (c : UInt8) (s : ByteArray) : (partsB c s).length = (Word.parts c s.data.toList).length := by unfold partsB; simp
theorem joined_parts (s : ByteArray) (c : UInt8) : joinB ⟨#[c]⟩ (partsB c s) = s := by
  unfold joinB partsB
  rw [map_ba]
  show ba (Lib.join (Word.parts c s.data.toList) [c]) = s
  rw [Word.join_parts, ba_eq]
theorem partsB_pos (c : UInt8) (s : ByteArray) : 0 < (partsB c s).length := by
  rw [partsB_len]
  cases h : Word.parts c s.data.toList with
  | nil => exact absurd h (Word.parts_ne _ _)
  | cons a r => simp
theorem row_heap {w w' : World} {v : Value} {l : List ByteArray} (h : Row w v l) (hh : w'.heap = w.heap) : Row w' v l := by
  obtain ⟨a, c, hv, hc, hl⟩ := h
  refine ⟨a, c, hv, hc, fun hne => ?_⟩
  obtain ⟨b, o, ha, hb, hL⟩ := hl hne
  refine ⟨b, o, ha, by rw [hh]; exact hb, ?_⟩
  intro j x hx
  rw [show w'.cell? ⟨b, o + j, none⟩ = w.cell? ⟨b, o + j, none⟩ from by unfold World.cell?; rw [hh]]
  exact hL j x hx
/-- A slice of one's own that holds texts: where it lies. -/
theorem own_text {w : World} {base : Nat} {v : Value} {l : List ByteArray} (h : Own w base v l) (hne : l ≠ []) : ∃ b c, v = .slice (some ⟨b, 0, none⟩) l.length c ∧ l.length ≤ c ∧ base ≤ b ∧ b < w.heap.size ∧ Lies w b 0 l := by
  obtain ⟨a, c, hv, hc, hl⟩ := own_row h
  obtain ⟨b, o, ha, hb, hL⟩ := hl hne
  subst ha
  have hlt := h.lt b (by rw [hv]; rfl)
  rcases h.2 with ⟨h0, _⟩ | ⟨g, cap, cur, hv2, _⟩
  · rw [h0] at hv; cases hv
  · rw [hv2] at hv
    cases hv
    exact ⟨b, _, hv2, hc, hlt.1, hb, hL⟩
theorem own_on {w w1 : World} {base : Nat} {e : TypeId} {size : Nat} {v : Value} {n : Nat} {xs : List Value} (h : w.ownsRow base e size v n xs) (d : Below w.heap.size w w1) : w1.ownsRow base e size v n xs := by
  refine ⟨h.1, ?_⟩
  rcases h.2 with h0 | ⟨g, cap, cur, hv, hb, hg, hc, hm, hs, ht⟩
  · exact .inl h0
  · refine .inr ⟨g, cap, cur, hv, hb, ?_, hc, hm, hs, ht⟩
    have hlt : g < w.heap.size := by
      rcases Nat.lt_or_ge g w.heap.size with hlt | hge
      · exact hlt
      · rw [Array.getElem?_eq_none hge] at hg; cases hg
    rw [d.block g hlt]
    exact hg
theorem lens_le (M : Nat) : ∀ r : List (List UInt8), (∀ x ∈ r, x.length ≤ M) → Lib.lens r ≤ r.length * M
  | [], _ => by simp [Lib.lens]
  | y :: r, h => by
    have ih := lens_le M r (fun x hx => h x (by simp [hx]))
    have h1 := h y (by simp)
    have e : Lib.lens (y :: r) = y.length + Lib.lens r := by simp [Lib.lens]
    rw [e, List.length_cons, Nat.add_mul]
    omega
end Go.Proofs.YtehgpibngalhfaaGreatDoor
namespace Go.Proofs.YtehgpibngalhfaaGreatDoor
open Go Go.RowKit Go.Sort Tg
theorem below_grow (W : World) (q : Nat) (os : Array Obj) : Below W.heap.size W (grow (W.drewN q) os) := by
  refine ⟨rfl, rfl, rfl, ?_, ?_⟩
  · show W.heap.size ≤ (W.heap ++ os).size
    simp
  · intro b hb
    show (W.heap ++ os)[b]? = W.heap[b]?
    rw [Array.getElem?_append_left hb]
set_option maxRecDepth 100000 in
theorem mixed : Tryz.prog.follows .mixedOrders = true := by kernel_rfl
theorem all_next {l : List Tag} {k : Nat} (hk : k < l.length) (h : (l.take k).all may = true) : (l.take (k + 1)).all may = may l[k] := by
  rw [List.take_succ_eq_append_getElem hk, List.all_append, h]
  simp
theorem all_not {l : List Tag} {k : Nat} (hk : k < l.length) (h : may l[k] = false) : l.all may = false := by
  cases ha : l.all may
  · rfl
  · rw [List.all_eq_true.1 ha _ (List.getElem_mem hk)] at h
    cases h
set_option maxRecDepth 100000 in
set_option maxHeartbeats 400000 in
theorem may_any (x : Tag) (W : World) (h1 : x.1.size ≤ 281474976710656) (h2 : x.2.size ≤ 281474976710656) :
    Calls Tryz.prog 94 #[.agg #[.string x.1, .string x.2]] W fun e w' => e = .returned (.bool (may x)) ∧ ∃ q os', w' = grow (W.drewN q) os' := by
  have H1 := fun W => refName_any x.1 W (by omega)
  have H2 := fun W => refValue_any x.2 W (by omega)
  rw [show may x = (Word.name x.1.data.toList && Word.value x.2.data.toList) from rfl]
  generalize Word.name x.1.data.toList = p at *
  generalize Word.value x.2.data.toList = q at *
  have H1 := Lib.hid H1
  have H2 := Lib.hid H2
  cases p
  · go_enter Tryz.func94, Tryz.ntmps94
    go_wp2_with (first
      | (go_at_call 114; refine (H1.out _).mono ?_; rintro e w' ⟨rfl, rfl⟩))
    go_ret
    exact ⟨rfl, 0, _, by rw [alloc_eq_grow]; rfl⟩
  · go_enter Tryz.func94, Tryz.ntmps94
    go_wp2_with (first
      | (go_at_call 114; refine (H1.out _).mono ?_; rintro e w' ⟨rfl, rfl⟩)
      | (go_at_call 115; refine (H2.out _).mono ?_; rintro e w' ⟨rfl, rfl⟩))
    go_ret
    exact ⟨by simp, 0, _, by rw [alloc_eq_grow]; rfl⟩
def hasB (ns : List ByteArray) (x : ByteArray) : Bool := ns.any fun n => eqB n x
/-- The tags' cells, one behind the other. -/
def flat (l : List Tag) : List Value := l.flatMap fun x => [.string x.1, .string x.2]
theorem flat_len (l : List Tag) : (flat l).length = l.length * 2 := by
  induction l with
  | nil => rfl
  | cons x r ih => simp only [flat, List.flatMap_cons, List.length_append] at ih ⊢; rw [ih]; simp; omega
theorem flat_at (l : List Tag) : ∀ (i : Nat) (h : i < l.length), (flat l)[i * 2]? = some (.string (l[i]).1) ∧ (flat l)[i * 2 + 1]? = some (.string (l[i]).2) := by
  induction l with
  | nil => intro i h; cases h
  | cons x r ih =>
    intro i h
    cases i with
    | zero => exact ⟨rfl, rfl⟩
    | succ i =>
      have h' : i < r.length := by simpa using h
      obtain ⟨h1, h2⟩ := ih i h'
      have e : flat (x :: r) = .string x.1 :: .string x.2 :: flat r := rfl
      rw [e]
      constructor
      · rw [show (i + 1) * 2 = i * 2 + 1 + 1 from by omega]
        simp only [List.getElem?_cons_succ, List.getElem_cons_succ]
        exact h1
      · rw [show (i + 1) * 2 + 1 = i * 2 + 1 + 1 + 1 from by omega]
        simp only [List.getElem?_cons_succ, List.getElem_cons_succ]
        exact h2
theorem flat_one (l : List Tag) : ∀ u ∈ flat l, u.oneCell' = true := by
  intro u hu
  simp only [flat, List.mem_flatMap] at hu
  obtain ⟨x, _, hx⟩ := hu
  simp at hx
  rcases hx with rfl | rfl <;> rfl
theorem flat_cells {w : World} {b o : Nat} {l : List Tag} (hL : TLies w b o l) : ∀ j u, (flat l)[j]? = some u → w.cell? ⟨b, o + j, none⟩ = some u := by
  intro j u hu
  have hj : j < l.length * 2 := by rw [← flat_len]; exact (List.getElem?_eq_some_iff.1 hu).1
  have hi : j / 2 < l.length := by omega
  obtain ⟨f1, f2⟩ := flat_at l (j / 2) hi
  obtain ⟨c1, c2⟩ := hL (j / 2) hi
  rcases Nat.mod_two_eq_zero_or_one j with h | h
  · rw [show j / 2 * 2 = j from by omega] at f1 c1
    rw [c1, ← f1, hu]
  · rw [show j / 2 * 2 + 1 = j from by omega] at f2
    rw [show o + j / 2 * 2 + 1 = o + j from by omega] at c2
    rw [c2, ← f2, hu]
theorem flat_append (l m : List Tag) : flat (l ++ m) = flat l ++ flat m := by simp [flat]
abbrev OwnT (w : World) (base : Nat) (v : Value) (l : List Tag) : Prop := w.ownsRow base 95 2 v l.length (flat l)
theorem ownT_row {w : World} {base : Nat} {v : Value} {l : List Tag} (h : OwnT w base v l) : TRow w v l := by
  rcases h.2 with ⟨h0, h1⟩ | ⟨g, cap, cur, hv, hb, hg, hc, _, hcur, ht⟩
  · have hl : l = [] := List.length_eq_zero_iff.1 h1
    subst hl
    exact ⟨none, 0, h0, Nat.le_refl _, fun hne => absurd rfl hne⟩
  · refine ⟨_, cap, hv, hc, fun _ => ⟨g, 0, rfl, ?_, ?_⟩⟩
    · rcases Nat.lt_or_ge g w.heap.size with hlt | hge
      · exact hlt
      · rw [Array.getElem?_eq_none hge] at hg; cases hg
    · intro i hi
      obtain ⟨f1, f2⟩ := flat_at l i hi
      have hcell : ∀ j, w.cell? ⟨g, j, none⟩ = cur[j]? := fun j => cell_of_row w g j cur 95 (0, 0) hg
      rw [← ht, List.getElem?_take] at f1 f2
      rw [hcell, hcell]
      rw [if_pos (by omega)] at f1 f2
      simp only [Array.getElem?_toList] at f1 f2
      rw [Nat.zero_add]
      exact ⟨f1, f2⟩
set_option maxRecDepth 100000 in
set_option maxRecDepth 100000 in
theorem info41 : ∃ i, Tryz.prog.info? 95 = some i ∧ i.zero = some (.agg #[.string ⟨#[]⟩, .string ⟨#[]⟩]) ∧ i.size = 2 ∧ i.bytes = 32 := ⟨_, rfl, rfl, rfl, rfl⟩
theorem new1T (w : World) (x : Tag) : ∀ j u, [Value.string x.1, Value.string x.2][j]? = some u → (w.alloc (.cells #[.string x.1, .string x.2] 95)).cell? ((⟨w.heap.size, 0, none⟩ : Addr).add j) = some u := by
  intro j u h
  match j, h with
  | 0, h => simp at h; subst h; simp [Addr.add]
  | 1, h => simp at h; subst h; simp [Addr.add]
  | j + 2, h => simp at h
theorem one1T (x : Tag) : ∀ u ∈ [Value.string x.1, Value.string x.2], u.oneCell' = true := by
  intro u hu
  simp at hu
  rcases hu with rfl | rfl <;> rfl
theorem ownT_next {w' : World} {base : Nat} {v' : Value} {l : List Tag} {x : Tag} (h : w'.ownsRow base 95 2 v' (l.length + 1) (flat l ++ [Value.string x.1, Value.string x.2])) : OwnT w' base v' (l ++ [x]) := by
  show w'.ownsRow base 95 2 v' (l ++ [x]).length (flat (l ++ [x]))
  rw [flat_append]
  simpa [flat] using h
/-- What an append of one tag leaves. -/
theorem ownT_below {w W w' : World} {base : Nat} {v : Value} {l : List Tag} {o : Obj} (hd : Below base w W) (hb : base ≤ W.heap.size) (h : OwnT W base v l) (hg : (W.alloc o).grownBy w' v.ownBlock) : Below base w w' :=
  (hd.alloc hb _).grown hg (by simp; omega) (fun k hk => (h.lt k hk).1)
theorem ownT_nil (w : World) (base : Nat) : OwnT w base (.slice none 0 0) [] := World.ownsRow_nil _ _ _ _
end Go.Proofs.YtehgpibngalhfaaGreatDoor
namespace Go.Proofs.YtehgpibngalhfaaGreatDoor
open Go Go.RowKit Go.Sort Tg
theorem only_take (l : List Tag) (ns : List ByteArray) (k : Nat) (hk : k < l.length) : only (l.take (k + 1)) ns = if hasB ns (l[k]).1 = true then only (l.take k) ns ++ [l[k]] else only (l.take k) ns := by
  unfold only
  rw [List.take_succ_eq_append_getElem hk, List.filter_append]
  cases h : hasB ns (l[k]).1
  · have h' : (ns.any fun n => eqB n (l[k]).1) = false := h
    simp [h']
  · have h' : (ns.any fun n => eqB n (l[k]).1) = true := h
    simp [h']
theorem only_len (l : List Tag) (ns : List ByteArray) (k : Nat) : (only (l.take k) ns).length ≤ l.length := by
  have h1 : (only (l.take k) ns).length ≤ (l.take k).length := List.length_filter_le _ _
  have h2 : (l.take k).length ≤ l.length := List.length_take_le' _ _
  omega
theorem new2T (w : World) (o : Obj) (x : Tag) : ∀ j u, [Value.string x.1, Value.string x.2][j]? = some u → ((w.alloc o).alloc (.cells #[.string x.1, .string x.2] 95)).cell? ((⟨w.heap.size + 1, 0, none⟩ : Addr).add j) = some u := by
  have h := new1T (w.alloc o) x
  have hz : (w.alloc o).heap.size = w.heap.size + 1 := by simp
  rw [hz] at h
  exact h
end Go.Proofs.YtehgpibngalhfaaGreatDoor
namespace Go.Proofs.YtehgpibngalhfaaGreatDoor
open Go Go.RowKit Go.Sort Tg
def pairB (t : Tag) : ByteArray := t.1 ++ ⟨#[61]⟩ ++ t.2
def textB (l : List Tag) : ByteArray := joinB ⟨#[44]⟩ (l.map pairB)
theorem row_of_own {wr : World} {base g : Nat} {l : List Tag} {xs : List Value} {k : Nat} (ho : wr.ownsRow base 9 1 (.slice (some ⟨g, 0, none⟩) l.length l.length) l.length xs) (ht : xs.take k = (l.take k).map fun t => .string (pairB t)) (hk : ¬ k < l.length) : Row wr (.slice (some ⟨g, 0, none⟩) l.length l.length) (l.map pairB) := by
  have hx : xs.length = l.length * 1 := ho.1
  rw [List.take_of_length_le (by omega), List.take_of_length_le (by omega)] at ht
  have h2 : Own wr base (.slice (some ⟨g, 0, none⟩) l.length l.length) (l.map pairB) := by
    show wr.ownsRow base 9 1 _ (l.map pairB).length ((l.map pairB).map Value.string)
    rw [List.length_map, List.map_map]
    rw [ht] at ho
    exact ho
  exact own_row h2
set_option maxRecDepth 100000 in
set_option maxHeartbeats 1000000 in
theorem text_any (v : Value) (l : List Tag) (w : World) (h : TRow w v l) (hn : l.length ≤ 1000) (hs : ∀ x ∈ l, x.1.size ≤ 100000 ∧ x.2.size ≤ 100000) (hj : (textB l).size ≤ 140737488355328) :
    Calls Tryz.prog 64 #[v] w fun e w' => e = .returned (.string (textB l)) ∧ Below w.heap.size w w' := by
  obtain ⟨a, c, rfl, hc, hl⟩ := h
  obtain ⟨i0, hi, hz0, hz1, hz2⟩ := info9
  have HI := Lib.hid (And.intro hi (And.intro hz0 (And.intro hz1 hz2)))
  clear hi hz0 hz1 hz2
  have HL := Lib.hid hl
  have HS := Lib.hid hs
  clear hl hs
  go_enter Tryz.func64, Tryz.ntmps64
  go_wp2_with (first | (at_make; refine wpList_make_full _ rfl _ _ 51 rfl w.heap.size 9 i0 (.string ⟨#[]⟩) 1 Tryz.underlying51 HI.out.1 HI.out.2.1 HI.out.2.2.1 .i64 .i64 _ _ l.length rfl rfl rfl rfl (by rw [HI.out.2.2.2]; omega) (by unfold maxLen; omega) (Nat.le_refl _) ?_; intro w0 hown0 hgrow0))
  have d0 : Below w.heap.size w w0 := (Below.refl _ _).grown hgrow0 (Nat.le_refl _) (fun k hk => by cases hk)
  have HO0 := Lib.hid hown0
  clear hown0 hgrow0
  go_loopw [11] (fun i wr => ∃ (k : Nat) (xs : List Value), k ≤ l.length ∧ i = .int .i64 k ∧ Hid (wr.ownsRow w.heap.size 9 1 (.slice (some ⟨w.heap.size, 0, none⟩) l.length l.length) l.length xs) ∧ Hid (xs.take k = (l.take k).map fun t => .string (pairB t)) ∧ Below w.heap.size w wr) (fun i _ => l.length - (intOf i).toNat)
  case atStart => exact ⟨0, _, Nat.zero_le _, rfl, HO0, rfl, d0⟩
  case round =>
    obtain ⟨k, xs, hk, rfl, HO, HT, hbl⟩ := hrel
    clear HO0 d0
    by_cases hlt : k < l.length
    · obtain ⟨b, o, rfl, hb, hL⟩ := HL.out (ne_of_lt hlt)
      obtain ⟨e1, e2⟩ := (hL.on hb hbl) k hlt
      have i1 : (k : Int) < (l.length : Int) := by omega
      have i2 : (0 : Int) ≤ (k : Int) := by omega
      have hz := hbl.size
      obtain ⟨z1, z2⟩ := HS.out _ (List.getElem_mem hlt)
      have hxl : xs.length = l.length * 1 := HO.out.1
      have hx : k < xs.length := by omega
      have HN : Hid ((xs.set k (.string (pairB l[k]))).take (k + 1) = (l.take (k + 1)).map fun t => .string (pairB t)) := by
        show _ = _
        rw [set_take _ _ _ hx, HT.out, List.take_succ_eq_append_getElem hlt, List.map_append]
        rfl
      rw [show pairB l[k] = (l[k]).1 ++ ⟨#[61]⟩ ++ (l[k]).2 from rfl] at HN
      generalize l[k] = x at *
      have c0 : (wr.alloc (Obj.cells #[.string x.1, .string x.2] 95)).cell? ⟨w.heap.size, k, none⟩ = some xs[k] := by
        rw [(HO.out.alloc _).cellAt k (by omega), List.getElem?_eq_getElem hx]
      have c1 : (wr.alloc (Obj.cells #[.string x.1, .string x.2] 95)).frozen? ⟨w.heap.size, k, none⟩ = false := (HO.out.alloc _).frozenAt k
      have HST := Lib.hid (((HO.out.alloc (Obj.cells #[.string x.1, .string x.2] 95)).stored k (.string (x.1 ++ ⟨#[61]⟩ ++ x.2))).1)
      have d1 := (hbl.alloc hz (Obj.cells #[.string x.1, .string x.2] 95)).setCell (p := ⟨w.heap.size, k, none⟩) (Nat.le_refl _) (.string (x.1 ++ ⟨#[61]⟩ ++ x.2))
      have HD := Lib.hid d1
      clear d1 hL hb HO HT hxl
      go_wp2_with fail
      exact ⟨⟨k + 1, _, by omega, by go_num, HST, HN, HD.out⟩, by simp [intOf]; omega⟩
    · have hr := row_of_own HO.out HT.out hlt
      clear HO HT HL HS HI
      go_wp2_with (first | (go_at_call 81; refine (join_row _ (l.map pairB) ⟨#[44]⟩ _ hr (by rw [List.length_map]; omega) hj).mono ?_; rintro e w2 ⟨rfl, n2⟩))
      go_ret
      exact ⟨rfl, hbl.trans (n2.mono hbl.size)⟩
set_option maxRecDepth 100000 in
set_option maxHeartbeats 2000000 in
theorem refText_any (v : Value) (l : List Tag) (w : World) (h : TRow w v l) (hn : l.length ≤ 1000) (hs : ∀ x ∈ l, x.1.size ≤ 100000 ∧ x.2.size ≤ 100000) (hj : (textB l).size ≤ 140737488355328) :
    Calls Tryz.prog 61 #[v] w fun e w' => e = .returned (.string (textB l)) ∧ Below w.heap.size w w' := by
  obtain ⟨a, c, rfl, hc, hl⟩ := h
  obtain ⟨i0, hi, hz0, hz1, hz2⟩ := info9
  have HI := Lib.hid (And.intro hi (And.intro hz0 (And.intro hz1 hz2)))
  clear hi hz0 hz1 hz2
  have HL := Lib.hid hl
  have HS := Lib.hid hs
  clear hl hs
  go_enter Tryz.func61, Tryz.ntmps61
  go_wp2_with fail
  go_loopw [3, 4] (fun out i wr => ∃ (k : Nat), k ≤ l.length ∧ i = .int .i64 k ∧ Hid (Own wr w.heap.size out ((l.take k).map pairB)) ∧ Below w.heap.size w wr) (fun _ i _ => l.length - (intOf i).toNat)
  case atStart => exact ⟨0, Nat.zero_le _, rfl, World.ownsRow_nil _ _ _ _, Below.refl _ _⟩
  case round =>
    obtain ⟨k, hk, rfl, HO, hbl⟩ := hrel
    by_cases hlt : k < l.length
    · obtain ⟨b, o, rfl, hb, hL⟩ := HL.out (ne_of_lt hlt)
      obtain ⟨e1, e2⟩ := (hL.on hb hbl) k hlt
      have i1 : (k : Int) < (l.length : Int) := by omega
      have i2 : (0 : Int) ≤ (k : Int) := by omega
      have hz := hbl.size
      have hb' : b < wr.heap.size := Nat.lt_of_lt_of_le hb hz
      obtain ⟨z1, z2⟩ := HS.out _ (List.getElem_mem hlt)
      have HK : Hid ((l.take (k + 1)).map pairB = (l.take k).map pairB ++ [(l[k]).1 ++ ⟨#[61]⟩ ++ (l[k]).2]) := by
        show _ = _
        rw [List.take_succ_eq_append_getElem hlt, List.map_append]
        rfl
      have hkl : ((l.take k).map pairB).length ≤ 1000 := by rw [List.length_map, List.length_take]; omega
      generalize l[k] = x at *
      generalize (l.take k).map pairB = L at *
      have hne : u3.ownBlock ≠ some b := fun e => by
        have := (HO.out.lt b e).1
        omega
      have hn1 : b ≠ wr.heap.size := by omega
      have a1 : ∀ w', Sem.run Tryz.prog (Op.stringOp .add x.1 ⟨#[61]⟩) w' = .ok (.string (x.1 ++ ⟨#[61]⟩)) w' := fun w' => run_string_add_sum w' _ _ (by rw [show (⟨#[61]⟩ : ByteArray).size = 1 from rfl]; omega)
      have a2 : ∀ w', Sem.run Tryz.prog (Op.stringOp .add (x.1 ++ ⟨#[61]⟩) x.2) w' = .ok (.string (x.1 ++ ⟨#[61]⟩ ++ x.2)) w' := fun w' => run_string_add_sum w' _ _ (by rw [ba_size, show (⟨#[61]⟩ : ByteArray).size = 1 from rfl]; omega)
      generalize x.1 ++ ⟨#[61]⟩ = y at *
      generalize y ++ x.2 = p at *
      clear hL z1 z2
      go_wp2_with fail
      go_region_held3 (fun w' => w'.cell? ⟨b, o + k * 2, none⟩ = some (.string x.1) ∧ w'.cell? ⟨b, o + k * 2 + 1, none⟩ = some (.string x.2))
        (first
          | go_keep
          | (go_split_ands
             refine ⟨?_, ?_⟩
             · (rw [hgrow.cell_far _ (by simp; omega) (Ne.symm hne)]; assumption)
             · (rw [hgrow.cell_far _ (by simp; omega) (Ne.symm hne)]; assumption)))
        ((refine step_append_lies _ (by rfl) _ _ _ (by rfl) w.heap.size 9 i0 _ 1 16 Tryz.underlying51 HI.out.1 HI.out.2.1 HI.out.2.2.1 HI.out.2.2.2 rfl (by omega) _ L.length (L.map Value.string) (by rfl) ((HO.out.alloc _).drew)
            ⟨wr.heap.size, 0, none⟩ 1 1 [.string p] (by rfl) (by rfl) (World.news_of_block (cs := #[.string p]) (t := 9) (fr := (0, 0)) (heap_alloc_new wr _)) (one1 _)
            (by omega) (by unfold maxLen; omega) (by omega) (by simp; omega) (wr.heap.size + 1) (by simp) ?_; intro gg cap w1 hown1 hgrow hat hgl))
      have HO2 := Lib.hid (own_next hown1)
      have hb2 : Below w.heap.size w w1 := ((hbl.alloc hz _).drew).grown hgrow (by simp; omega) (fun k hk => (HO.out.lt k hk).1)
      clear hown1 hgrow HO hbl
      go_wp2_with fail
      exact ⟨⟨k + 1, by omega, by go_num, by rw [HK.out]; exact HO2, hb2⟩, by simp [intOf]; omega⟩
    · have hr := own_row HO.out
      rw [List.take_of_length_le (by omega)] at hr
      clear HO HL HS HI
      go_wp2_with (first | (go_at_call 34; refine (refJoin_any _ (l.map pairB) ⟨#[44]⟩ _ hr (by rw [List.length_map]; omega) hj).mono ?_; rintro e w2 ⟨rfl, rfl⟩))
      go_ret
      exact ⟨rfl, hbl⟩
theorem pairB_list (t : Tag) : (pairB t).data.toList = pair t := by
  unfold pairB pair nm vl
  rw [ByteArray.data_append, ByteArray.data_append]
  simp
theorem textB_list (l : List Tag) : (textB l).data.toList = text l := by
  unfold textB joinB text
  rw [ba_list, List.map_map]
  congr 1
  apply List.map_congr_left
  intro t _
  exact pairB_list t
theorem text_size (l : List Tag) (M : Nat) (h : ∀ t ∈ l, t.1.size + t.2.size + 1 ≤ M) : (textB l).size ≤ l.length * (M + 1) := by
  rw [size_list, textB_list]
  cases l with
  | nil => simp [text, Lib.join_nil]
  | cons t r =>
    have hp : ∀ u ∈ t :: r, (pair u).length ≤ M := by
      intro u hu
      have := h u hu
      unfold pair nm vl
      rw [List.length_append, List.length_cons, ← size_list, ← size_list]
      omega
    have hl := lens_le M (r.map pair) (by
      intro x hx
      obtain ⟨u, hu, rfl⟩ := List.mem_map.1 hx
      exact hp u (by simp [hu]))
    have h0 := hp t (by simp)
    unfold text
    rw [List.map_cons, Lib.join_cons, List.length_append, Lib.joinTail_length]
    rw [List.length_map] at hl
    have e1 : (([44] : List UInt8).length * (r.map pair).length) = r.length := by simp
    have e2 : (r.length + 1) * (M + 1) = r.length * M + r.length + M + 1 := by rw [Nat.add_mul, Nat.mul_add]; omega
    rw [e1, List.length_cons, e2]
    omega
theorem right_small {l : List Tag} (h : right l = true) : l.length ≤ 4 ∧ ∀ t ∈ l, t.1.size ≤ 12 ∧ t.2.size ≤ 12 := by
  simp only [right, Bool.and_eq_true, decide_eq_true_eq] at h
  refine ⟨h.1.2, fun t ht => ?_⟩
  have hm := List.all_eq_true.1 h.1.1 t ht
  simp only [may, Bool.and_eq_true] at hm
  have h1 := Word.name_value _ hm.1
  have h2 := hm.2
  simp only [Word.value, Word.fits, Bool.and_eq_true, decide_eq_true_eq] at h1 h2
  rw [size_list, size_list]
  exact ⟨h1.1.2, h2.1.2⟩
end Go.Proofs.YtehgpibngalhfaaGreatDoor
