/- Walks: the text of matches, the program's and the document's. -/
import Derived.Test.YtfohknpjlkjbbaaGreatDoorT2
namespace Go.Proofs.YtfohknpjlkjbbaaGreatDoor
open Go Go.RowKit Tg Pk

def ptextB (l : List Match) : ByteArray := joinB ⟨#[44]⟩ (l.map ptxt)
theorem ptextB_list (l : List Match) : (ptextB l).data.toList = ptext l := by
  unfold ptextB ptext joinB
  rw [ba_list, List.map_map]
  rfl
theorem ptxt_size (m : Match) : (ptxt m).size ≤ m.2.1.size + m.2.2.size + 2 := by
  obtain ⟨k, n, v⟩ := m
  have e1 : (⟨#[61]⟩ : ByteArray).size = 1 := rfl
  have e2 : (⟨#[33, 61]⟩ : ByteArray).size = 2 := rfl
  have e3 : (⟨#[42]⟩ : ByteArray).size = 1 := rfl
  rcases kinds3 k with rfl | rfl | rfl | ⟨k1, k2, k3⟩
  · rw [ptxt1, ba_size, ba_size]; dsimp only; omega
  · rw [ptxt2, ba_size, ba_size]; dsimp only; omega
  · rw [ptxt3, ba_size, ba_size, ba_size]; dsimp only; omega
  · rw [ptxt4 k n v k1 k2 k3]; dsimp only; omega
theorem ptext_size (l : List Match) (M : Nat) (h : ∀ t ∈ l, t.2.1.size + t.2.2.size + 2 ≤ M) : (ptextB l).size ≤ l.length * (M + 1) := by
  rw [size_list, ptextB_list]
  cases l with
  | nil => simp [ptext, Lib.join_nil]
  | cons t r =>
    have hp : ∀ u ∈ t :: r, (ptxt u).data.toList.length ≤ M := by
      intro u hu
      have h1 := h u hu
      have h2 := ptxt_size u
      rw [← size_list]
      omega
    have hl := lens_le M (r.map fun m => (ptxt m).data.toList) (by
      intro x hx
      obtain ⟨u, hu, rfl⟩ := List.mem_map.1 hx
      exact hp u (by simp [hu]))
    have h0 := hp t (by simp)
    unfold ptext
    rw [List.map_cons, Lib.join_cons, List.length_append, Lib.joinTail_length]
    rw [List.length_map] at hl
    have e1 : (([44] : List UInt8).length * (r.map fun m => (ptxt m).data.toList).length) = r.length := by simp
    have e2 : (r.length + 1) * (M + 1) = r.length * M + r.length + M + 1 := by rw [Nat.add_mul, Nat.mul_add]; omega
    rw [e1, List.length_cons, e2]
    omega
theorem rowM_of_own {wr : World} {base g : Nat} {l : List Match} {xs : List Value} {k : Nat} (ho : wr.ownsRow base 9 1 (.slice (some ⟨g, 0, none⟩) l.length l.length) l.length xs) (ht : xs.take k = (l.take k).map fun t => .string (ptxt t)) (hk : ¬ k < l.length) : Row wr (.slice (some ⟨g, 0, none⟩) l.length l.length) (l.map ptxt) := by
  have hx : xs.length = l.length * 1 := ho.1
  rw [List.take_of_length_le (by omega), List.take_of_length_le (by omega)] at ht
  have h2 : Own wr base (.slice (some ⟨g, 0, none⟩) l.length l.length) (l.map ptxt) := by
    show wr.ownsRow base 9 1 _ (l.map ptxt).length ((l.map ptxt).map Value.string)
    rw [List.length_map, List.map_map]
    rw [ht] at ho
    exact ho
  exact own_row h2

set_option maxHeartbeats 1000000 in
theorem textM_any (v : Value) (l : List Match) (w : World) (h : MRow w v l) (hn : l.length ≤ 1000) (hs : ∀ x ∈ l, x.2.1.size ≤ 100000 ∧ x.2.2.size ≤ 100000) (hj : (ptextB l).size ≤ 140737488355328) :
    Calls Tryz.prog 31 #[v] w fun e w' => e = .returned (.string (ptextB l)) ∧ Below w.heap.size w w' := by
  obtain ⟨a, c, rfl, hc, hl⟩ := h
  obtain ⟨i0, hi, hz0, hz1, hz2⟩ := info9
  have HI := Lib.hid (And.intro hi (And.intro hz0 (And.intro hz1 hz2)))
  clear hi hz0 hz1 hz2
  have HL := Lib.hid hl
  have HS := Lib.hid hs
  clear hl hs
  go_enter Tryz.func31, Tryz.ntmps31
  go_wp2_with (first | (at_make; refine wpList_make_full _ rfl _ _ 23 rfl w.heap.size 9 i0 (.string ⟨#[]⟩) 1 Tryz.underlying23 HI.out.1 HI.out.2.1 HI.out.2.2.1 .i64 .i64 _ _ l.length rfl rfl rfl rfl (by rw [HI.out.2.2.2]; omega) (by unfold maxLen; omega) (Nat.le_refl _) ?_; intro w0 hown0 hgrow0))
  have d0 : Below w.heap.size w w0 := (Below.refl _ _).grown hgrow0 (Nat.le_refl _) (fun k hk => by cases hk)
  have HO0 := Lib.hid hown0
  clear hown0 hgrow0
  go_loopw [11] (fun i wr => ∃ (k : Nat) (xs : List Value), k ≤ l.length ∧ i = .int .i64 k ∧ Hid (wr.ownsRow w.heap.size 9 1 (.slice (some ⟨w.heap.size, 0, none⟩) l.length l.length) l.length xs) ∧ Hid (xs.take k = (l.take k).map fun t => .string (ptxt t)) ∧ Below w.heap.size w wr) (fun i _ => l.length - (intOf i).toNat)
  case atStart => exact ⟨0, _, Nat.zero_le _, rfl, HO0, rfl, d0⟩
  case round =>
    obtain ⟨k, xs, hk, rfl, HO, HT, hbl⟩ := hrel
    clear HO0 d0
    by_cases hlt : k < l.length
    · obtain ⟨b, o, rfl, hb, hL⟩ := HL.out (ne_of_lt hlt)
      obtain ⟨e0, e1, e2⟩ := (hL.on hb hbl) k hlt
      have i1 : (k : Int) < (l.length : Int) := by omega
      have i2 : (0 : Int) ≤ (k : Int) := by omega
      have hz := hbl.size
      obtain ⟨z1, z2⟩ := HS.out _ (List.getElem_mem hlt)
      have hxl : xs.length = l.length * 1 := HO.out.1
      have hx : k < xs.length := by omega
      have HN : Hid ((xs.set k (.string (ptxt l[k]))).take (k + 1) = (l.take (k + 1)).map fun t => .string (ptxt t)) := by
        show _ = _
        rw [set_take _ _ _ hx, HT.out, List.take_succ_eq_append_getElem hlt, List.map_append]
        rfl
      have H1 := fun W => textOf_any l[k] W z1 z2
      generalize l[k] = x at *
      generalize ptxt x = T at *
      have H1 := Lib.hid H1
      clear hL hb HT z1 z2
      go_wp2_with fail
      refine (H1.out _).mono ?_
      rintro e w2 ⟨rfl, n2⟩
      have hbl2 := (hbl.alloc hz _).trans (n2.mono (by simp; omega))
      have HO2 := Lib.hid (own_on (HO.out.alloc _) n2)
      clear n2 e0 e1 e2 HO
      have c0 : w2.cell? ⟨w.heap.size, k, none⟩ = some xs[k] := by
        rw [(HO2.out).cellAt k (by omega), List.getElem?_eq_getElem hx]
      have c1 : w2.frozen? ⟨w.heap.size, k, none⟩ = false := (HO2.out).frozenAt k
      have HST := Lib.hid (((HO2.out).stored k (.string T)).1)
      have HD := Lib.hid (hbl2.setCell (p := ⟨w.heap.size, k, none⟩) (Nat.le_refl _) (.string T))
      clear hbl2 HO2
      go_wp2_with fail
      exact ⟨⟨k + 1, _, by omega, by go_num, HST, HN, HD.out⟩, by simp [intOf]; omega⟩
    · have hr := rowM_of_own HO.out HT.out hlt
      clear HO HT HL HS HI
      go_wp2_with (first | (go_at_call 32; refine (join_row _ (l.map ptxt) ⟨#[44]⟩ _ hr (by rw [List.length_map]; omega) hj).mono ?_; rintro e w2 ⟨rfl, n2⟩))
      go_ret
      exact ⟨rfl, hbl.trans (n2.mono hbl.size)⟩

set_option maxHeartbeats 2000000 in
theorem refTextM_any (v : Value) (l : List Match) (w : World) (h : MRow w v l) (hn : l.length ≤ 1000) (hs : ∀ x ∈ l, x.2.1.size ≤ 100000 ∧ x.2.2.size ≤ 100000) (hj : (ptextB l).size ≤ 140737488355328) :
    Calls Tryz.prog 34 #[v] w fun e w' => e = .returned (.string (ptextB l)) ∧ Below w.heap.size w w' := by
  obtain ⟨a, c, rfl, hc, hl⟩ := h
  obtain ⟨i0, hi, hz0, hz1, hz2⟩ := info9
  have HI := Lib.hid (And.intro hi (And.intro hz0 (And.intro hz1 hz2)))
  clear hi hz0 hz1 hz2
  have HL := Lib.hid hl
  have HS := Lib.hid hs
  clear hl hs
  go_enter Tryz.func34, Tryz.ntmps34
  go_wp2_with fail
  go_loopw [3, 4] (fun out i wr => ∃ (k : Nat), k ≤ l.length ∧ i = .int .i64 k ∧ Hid (Own wr w.heap.size out ((l.take k).map ptxt)) ∧ Below w.heap.size w wr) (fun _ i _ => l.length - (intOf i).toNat)
  case atStart => exact ⟨0, Nat.zero_le _, rfl, World.ownsRow_nil _ _ _ _, Below.refl _ _⟩
  case round =>
    obtain ⟨k, hk, rfl, HO, hbl⟩ := hrel
    by_cases hlt : k < l.length
    · obtain ⟨b, o, rfl, hb, hL⟩ := HL.out (ne_of_lt hlt)
      obtain ⟨e0, e1, e2⟩ := (hL.on hb hbl) k hlt
      have i1 : (k : Int) < (l.length : Int) := by omega
      have i2 : (0 : Int) ≤ (k : Int) := by omega
      have hz := hbl.size
      obtain ⟨z1, z2⟩ := HS.out _ (List.getElem_mem hlt)
      have HK : Hid ((l.take (k + 1)).map ptxt = (l.take k).map ptxt ++ [ptxt l[k]]) := by
        show _ = _
        rw [List.take_succ_eq_append_getElem hlt, List.map_append]
        rfl
      have hkl : ((l.take k).map ptxt).length ≤ 1000 := by rw [List.length_map, List.length_take]; omega
      generalize l[k] = x at *
      generalize (l.take k).map ptxt = L at *
      obtain ⟨kd, n, v⟩ := x
      dsimp only at *
      clear hL hb HL HS
      rcases kinds3 kd with rfl | rfl | rfl | ⟨k1, k2, k3⟩
      · rw [ptxt1] at HK
        have a0 : ∀ w', Sem.run Tryz.prog (Op.stringOp .add n ⟨#[61]⟩) w' = .ok (.string (n ++ ⟨#[61]⟩)) w' := fun w' => run_string_add_sum w' _ _ (by rw [show (⟨#[61]⟩ : ByteArray).size = 1 from rfl]; omega)
        have s0 : (n ++ ⟨#[61]⟩).size = n.size + 1 := ba_size _ _
        generalize n ++ ⟨#[61]⟩ = y at *
        have a1 : ∀ w', Sem.run Tryz.prog (Op.stringOp .add y v) w' = .ok (.string (y ++ v)) w' := fun w' => run_string_add_sum w' _ _ (by omega)
        have s1 : (y ++ v).size = y.size + v.size := ba_size _ _
        generalize y ++ v = p at *
        clear s0 s1
        go_wp2_with (first | (at_builtin; refine wpList_append_own _ rfl _ _ 23 rfl w.heap.size 9 i0 (.string ⟨#[]⟩) 1 16 Tryz.underlying23 HI.out.1 HI.out.2.1 HI.out.2.2.1 HI.out.2.2.2 rfl (by decide) _ _ _ rfl (HO.out.alloc _) ⟨wr.heap.size, 0, none⟩ 1 1 [Value.string p] rfl rfl (new1 wr _) (one1 _) (by unfold maxLen; omega) (by omega) (by simp; omega) ?_; intro v' w2 hown hgrow hnil))
        have HO2 := Lib.hid (own_next hown)
        have hb2 := own_below hbl hz HO.out hgrow
        exact ⟨⟨k + 1, by omega, by go_num, by rw [HK.out]; exact HO2, hb2⟩, by simp [intOf]; omega⟩
      · rw [ptxt2] at HK
        have a0 : ∀ w', Sem.run Tryz.prog (Op.stringOp .add n ⟨#[33, 61]⟩) w' = .ok (.string (n ++ ⟨#[33, 61]⟩)) w' := fun w' => run_string_add_sum w' _ _ (by rw [show (⟨#[33, 61]⟩ : ByteArray).size = 2 from rfl]; omega)
        have s0 : (n ++ ⟨#[33, 61]⟩).size = n.size + 2 := ba_size _ _
        generalize n ++ ⟨#[33, 61]⟩ = y at *
        have a1 : ∀ w', Sem.run Tryz.prog (Op.stringOp .add y v) w' = .ok (.string (y ++ v)) w' := fun w' => run_string_add_sum w' _ _ (by omega)
        have s1 : (y ++ v).size = y.size + v.size := ba_size _ _
        generalize y ++ v = p at *
        clear s0 s1
        go_wp2_with (first | (at_builtin; refine wpList_append_own _ rfl _ _ 23 rfl w.heap.size 9 i0 (.string ⟨#[]⟩) 1 16 Tryz.underlying23 HI.out.1 HI.out.2.1 HI.out.2.2.1 HI.out.2.2.2 rfl (by decide) _ _ _ rfl (HO.out.alloc _) ⟨wr.heap.size, 0, none⟩ 1 1 [Value.string p] rfl rfl (new1 wr _) (one1 _) (by unfold maxLen; omega) (by omega) (by simp; omega) ?_; intro v' w2 hown hgrow hnil))
        have HO2 := Lib.hid (own_next hown)
        have hb2 := own_below hbl hz HO.out hgrow
        exact ⟨⟨k + 1, by omega, by go_num, by rw [HK.out]; exact HO2, hb2⟩, by simp [intOf]; omega⟩
      · rw [ptxt3] at HK
        have a0 : ∀ w', Sem.run Tryz.prog (Op.stringOp .add n ⟨#[61]⟩) w' = .ok (.string (n ++ ⟨#[61]⟩)) w' := fun w' => run_string_add_sum w' _ _ (by rw [show (⟨#[61]⟩ : ByteArray).size = 1 from rfl]; omega)
        have s0 : (n ++ ⟨#[61]⟩).size = n.size + 1 := ba_size _ _
        generalize n ++ ⟨#[61]⟩ = y at *
        have a1 : ∀ w', Sem.run Tryz.prog (Op.stringOp .add y v) w' = .ok (.string (y ++ v)) w' := fun w' => run_string_add_sum w' _ _ (by omega)
        have s1 : (y ++ v).size = y.size + v.size := ba_size _ _
        generalize y ++ v = p at *
        have a2 : ∀ w', Sem.run Tryz.prog (Op.stringOp .add p ⟨#[42]⟩) w' = .ok (.string (p ++ ⟨#[42]⟩)) w' := fun w' => run_string_add_sum w' _ _ (by rw [show (⟨#[42]⟩ : ByteArray).size = 1 from rfl]; omega)
        have s2 : (p ++ ⟨#[42]⟩).size = p.size + 1 := ba_size _ _
        generalize p ++ ⟨#[42]⟩ = q at *
        clear s0 s1 s2
        go_wp2_with (first | (at_builtin; refine wpList_append_own _ rfl _ _ 23 rfl w.heap.size 9 i0 (.string ⟨#[]⟩) 1 16 Tryz.underlying23 HI.out.1 HI.out.2.1 HI.out.2.2.1 HI.out.2.2.2 rfl (by decide) _ _ _ rfl (HO.out.alloc _) ⟨wr.heap.size, 0, none⟩ 1 1 [Value.string q] rfl rfl (new1 wr _) (one1 _) (by unfold maxLen; omega) (by omega) (by simp; omega) ?_; intro v' w2 hown hgrow hnil))
        have HO2 := Lib.hid (own_next hown)
        have hb2 := own_below hbl hz HO.out hgrow
        exact ⟨⟨k + 1, by omega, by go_num, by rw [HK.out]; exact HO2, hb2⟩, by simp [intOf]; omega⟩
      · rw [ptxt4 kd n v k1 k2 k3] at HK
        go_wp2_with (first | (at_builtin; refine wpList_append_own _ rfl _ _ 23 rfl w.heap.size 9 i0 (.string ⟨#[]⟩) 1 16 Tryz.underlying23 HI.out.1 HI.out.2.1 HI.out.2.2.1 HI.out.2.2.2 rfl (by decide) _ _ _ rfl (HO.out.alloc _) ⟨wr.heap.size, 0, none⟩ 1 1 [Value.string n] rfl rfl (new1 wr _) (one1 _) (by unfold maxLen; omega) (by omega) (by simp; omega) ?_; intro v' w2 hown hgrow hnil))
        have HO2 := Lib.hid (own_next hown)
        have hb2 := own_below hbl hz HO.out hgrow
        exact ⟨⟨k + 1, by omega, by go_num, by rw [HK.out]; exact HO2, hb2⟩, by simp [intOf]; omega⟩
    · have hr := own_row HO.out
      rw [List.take_of_length_le (by omega)] at hr
      clear HO HL HS HI
      go_wp2_with (first | (go_at_call 35; refine (refJoin_any _ (l.map ptxt) ⟨#[44]⟩ _ hr (by rw [List.length_map]; omega) hj).mono ?_; rintro e w2 ⟨rfl, rfl⟩))
      go_ret
      exact ⟨rfl, hbl⟩
end Go.Proofs.YtfohknpjlkjbbaaGreatDoor
