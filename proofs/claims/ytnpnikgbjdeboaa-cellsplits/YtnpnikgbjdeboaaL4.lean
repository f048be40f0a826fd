/- Walks: the law CellSplits. -/
import Derived.Test.YtnpnikgbjdeboaaL3
namespace Go.Proofs.Ytnpnikgbjdeboaa
open Go Go.RowKit Cl

/-- A slice's beginning, and what is left behind it. -/
theorem cut_head (a : Option Addr) (c n k : Nat) (hk : k ≤ n) (hn : n ≤ c) (w : World) : Sem.run Try.prog (Instr.sliceAt 31 (.slice a n c) none (some (.int .i64 (k : Int))) none) w = .ok (.slice a k c) w := by
  have h0 : (0 : Int) ≤ (k : Int) := by omega
  have h1 : (k : Int) ≤ (c : Int) := by omega
  have hu := Try.underlying31
  go_simp
theorem cut_tail (a : Option Addr) (c n k : Nat) (hk : k ≤ n) (w : World) : Sem.run Try.prog (Instr.sliceAt 31 (.slice a n c) (some (.int .i64 (k : Int))) none none) w = .ok (.slice (if c = k then a else a.map (·.add k)) (n - k) (c - k)) w := by
  have h0 : (0 : Int) ≤ (k : Int) := by omega
  have h1 : (k : Int) ≤ (n : Int) := by omega
  have hu := Try.underlying31
  go_simp
theorem iat_head {w : World} {a : Option Addr} {l : List Int} (h : IAt w a l) (k : Nat) : IAt w a (l.take k) := by
  intro hne
  obtain ⟨b, o, ha, hb, hL⟩ := h (fun e => hne (by rw [e]; exact List.take_nil))
  refine ⟨b, o, ha, hb, fun i hi => ?_⟩
  have hi' : i < l.length := by rw [List.length_take] at hi; omega
  rw [hL i hi', List.getElem_take]
theorem iat_tail {w : World} {a : Option Addr} {l : List Int} {c : Nat} (h : IAt w a l) (hc : l.length ≤ c) (k : Nat) : IAt w (if c = k then a else a.map (·.add k)) (l.drop k) := by
  intro hne
  have hk : k < l.length := by
    rcases Nat.lt_or_ge k l.length with h1 | h1
    · exact h1
    · exact absurd (List.drop_eq_nil_of_le h1) hne
  obtain ⟨b, o, ha, hb, hL⟩ := h (ne_of_lt hk)
  rw [if_neg (by omega), ha]
  refine ⟨b, o + k, ?_, hb, fun i hi => ?_⟩
  · by_cases h0 : k = 0
    · subst h0; simp [Addr.add]
    · simp [Addr.add, h0]
  · have hi' : k + i < l.length := by rw [List.length_drop] at hi; omega
    rw [show o + k + i = o + (k + i) from by omega, hL (k + i) hi', List.getElem_drop]
theorem ofs_len (a : Option Addr) (c n : Nat) (l : List Int) (w : World) (hA : IAt w a l) (ho : ∀ x ∈ l, ok64 x) (hn : l.length = n) (hm : n ≤ 1000000) :
    Calls Try.prog 13 #[.slice a n c] w fun e w' => e = .returned (.agg #[.int .i64 (ofL l).cnt, .int .i64 (ofL l).sn, .bool (ofL l).so, .int .i64 (ofL l).mn, .int .i64 (ofL l).mx]) ∧ Below w.heap.size w w' := by
  subst hn
  exact ofs_any a c l w hA ho hm
theorem cat2 (w : World) (n : Nat) (x y : Cell) (hn : n = w.heap.size) : CAt (w.alloc (.cells #[.int .i64 x.cnt, .int .i64 x.sn, .bool x.so, .int .i64 x.mn, .int .i64 x.mx, .int .i64 y.cnt, .int .i64 y.sn, .bool y.so, .int .i64 y.mn, .int .i64 y.mx] 25)) (some ⟨n, 0, none⟩) [x, y] := by
  subst hn
  intro _
  refine ⟨_, _, rfl, by simp, fun i hi => ?_⟩
  match i, hi with
  | 0, _ => simp
  | 1, _ => simp
/-- What the two parts, merged, tell beside what all tell. -/
theorem parts (l : List Int) (k : Nat) (hl : (l.length : Int) ≤ 1000000) :
    (mergeL [ofL (l.take k), ofL (l.drop k)]).cnt = l.length ∧ (ofL l).cnt = l.length ∧ (mergeL [ofL (l.take k), ofL (l.drop k)]).mn = (ofL l).mn ∧ (mergeL [ofL (l.take k), ofL (l.drop k)]).mx = (ofL l).mx ∧
    ((ofL l).so = false → (mergeL [ofL (l.take k), ofL (l.drop k)]).so = false → (mergeL [ofL (l.take k), ofL (l.drop k)]).sn = (ofL l).sn) := by
  have e : mergeL [ofL (l.take k), ofL (l.drop k)] = two (ofL (l.take k)) (ofL (l.drop k)) := by
    show two (two zero (ofL (l.take k))) (ofL (l.drop k)) = _
    rw [zero_two]
  rw [e]
  have h := split_like (l.take k) (l.drop k)
  have hs := split_sum (l.take k) (l.drop k)
  rw [List.take_append_drop] at h hs
  have hc := ofL_cnt l hl
  exact ⟨h.1.trans hc, hc, h.2.1, h.2.2, fun h1 h2 => hs h2 h1⟩

/-- The operations of the law's fourth statement. -/
def opsS : Array Oper := #[{ dst := some 21, op := Op.move (Operand.tmp 0), type := 31, pos := "law.go:71", after := #[], guard := none }, { dst := some 22, op := Op.move (Operand.tmp 5), type := 3, pos := "law.go:71", after := #[], guard := none }, { dst := some 23, op := Op.slice 31 (Operand.tmp 21) none (some (Operand.tmp 22)) none, type := 31, pos := "law.go:71", after := #[{ on := 0, ground := Ground.data }, { on := 1, ground := Ground.data }], guard := none }, { dst := some 24, op := Op.call { callee := Callee.value (Operand.func 13), args := #[Operand.tmp 23], argTypes := #[31] }, type := 25, pos := "law.go:71", after := #[{ on := 2, ground := Ground.data }], guard := none }, { dst := some 25, op := Op.move (Operand.tmp 0), type := 31, pos := "law.go:71", after := #[], guard := none }, { dst := some 26, op := Op.move (Operand.tmp 5), type := 3, pos := "law.go:71", after := #[], guard := none }, { dst := some 27, op := Op.slice 31 (Operand.tmp 25) (some (Operand.tmp 26)) none none, type := 31, pos := "law.go:71", after := #[{ on := 4, ground := Ground.data }, { on := 5, ground := Ground.data }], guard := none }, { dst := some 28, op := Op.call { callee := Callee.value (Operand.func 13), args := #[Operand.tmp 27], argTypes := #[31] }, type := 25, pos := "law.go:71", after := #[{ on := 6, ground := Ground.data }, { on := 3, ground := Ground.chain }], guard := none }, { dst := some 29, op := Op.buildSlice 35 2 #[(0, Operand.tmp 24), (1, Operand.tmp 28)], type := 35, pos := "law.go:71", after := #[{ on := 3, ground := Ground.data }, { on := 7, ground := Ground.data }], guard := none }, { dst := some 30, op := Op.call { callee := Callee.value (Operand.func 15), args := #[Operand.tmp 29], argTypes := #[35] }, type := 25, pos := "law.go:71", after := #[{ on := 8, ground := Ground.data }, { on := 7, ground := Ground.chain }], guard := none }, { dst := some 7, op := Op.alloc 25, type := 0, pos := "law.go:71", after := #[], guard := none }, { dst := none, op := Op.store 25 (Operand.tmp 7) (Operand.tmp 30), type := 0, pos := "law.go:71", after := #[{ on := 10, ground := Ground.data }, { on := 9, ground := Ground.data }, { on := 9, ground := Ground.chain }, { on := 0, ground := Ground.phase }, { on := 1, ground := Ground.phase }, { on := 2, ground := Ground.phase }, { on := 3, ground := Ground.phase }, { on := 4, ground := Ground.phase }, { on := 5, ground := Ground.phase }, { on := 6, ground := Ground.phase }, { on := 7, ground := Ground.phase }, { on := 8, ground := Ground.phase }, { on := 9, ground := Ground.phase }, { on := 10, ground := Ground.phase }], guard := none }]

set_option maxHeartbeats 1000000 in
theorem splits_walk (a : Option Addr) (c : Nat) (l : List Int) (t : Nat) (w : World) (hA : IAt w a l) (ho : ∀ x ∈ l, ok64 x) (hc : l.length ≤ c) (ht : t ≤ 65535) :
    Calls Try.prog 6 #[.slice a l.length c, .int .u16 (t : Int)] w fun e w' => e = .returned (.bool true) ∧ Below w.heap.size w w' := by
  have HO0 := Lib.hid ho
  have HA := Lib.hid hA
  have HC := Lib.hid hc
  clear ho hA hc
  go_enter Try.func6, Try.ntmps6
  go_wp2_with fail
  refine (alive_any _).mono ?_
  rintro e w1 ⟨rfl, d1⟩
  by_cases hl : 1000 < l.length
  · go_wp2_with fail
    go_ret
    exact ⟨rfl, d1⟩
  · have hl2 : (l.length : Int) ≤ 1000 := by omega
    obtain ⟨k, HJ⟩ : ∃ k : Nat, Hid (t % (l.length + 1) = k) := ⟨_, rfl⟩
    have hk : k ≤ l.length := by
      have := Nat.mod_lt t (show 0 < l.length + 1 by omega)
      have := HJ.out
      omega
    have k1 : IntKind.i64.wrap (t : Int) = (t : Int) := by rw [IntKind.wrap_i64]; omega
    have k2 : IntKind.i64.wrap ((l.length : Int) + 1) = (l.length : Int) + 1 := by rw [IntKind.wrap_i64]; omega
    have k3 : Int.tmod (t : Int) ((l.length : Int) + 1) = (k : Int) := by
      rw [Int.tmod_eq_emod_of_nonneg (by omega), ← HJ.out]
      simp
    have k4 : ¬ (l.length : Int) + 1 = 0 := by omega
    have k5 : ((l.length : Int) + 1 == 0) = false := by simp; omega
    have k6 : IntKind.i64.wrap (k : Int) = (k : Int) := by rw [IntKind.wrap_i64]; omega
    have HA1 := Lib.hid (HA.out.on d1)
    clear HA
    go_wp2_with fail
    refine (ofs_any a c l _ HA1.out HO0.out (by omega)).mono ?_
    rintro e w2 ⟨rfl, n2⟩
    have hA2 := HA1.out.on n2
    have d2 := d1.trans (n2.mono d1.size)
    clear HA1 d1 n2 k1 k2 k3 k4 k5 k6
    go_wp2_with fail
    have A0 := Box.new w2 w2.heap.size (ofL l) rfl
    have E0 := d2.alloc d2.size (.cells #[.int .i64 (ofL l).cnt, .int .i64 (ofL l).sn, .bool (ofL l).so, .int .i64 (ofL l).mn, .int .i64 (ofL l).mx] 25)
    have hA3 := hA2.on (aBelow w2 (.cells #[.int .i64 (ofL l).cnt, .int .i64 (ofL l).sn, .bool (ofL l).so, .int .i64 (ofL l).mn, .int .i64 (ofL l).mx] 25))
    have hN1 := iat_head hA3 k
    have hN2 := iat_tail hA3 HC.out k
    have hs1 := cut_head a c l.length k hk HC.out
    have hs2 := cut_tail a c l.length k hk
    generalize (if c = k then a else a.map (·.add k)) = a2 at *
    have HO := Lib.hid (And.intro (fun x (hx : x ∈ l.take k) => HO0.out x (List.mem_of_mem_take hx)) (fun x (hx : x ∈ l.drop k) => HO0.out x (List.mem_of_mem_drop hx)))
    have HZ := Lib.hid (And.intro (show (l.take k).length = k by rw [List.length_take]; omega) (show (l.drop k).length = l.length - k from List.length_drop))
    have HL := Lib.hid (And.intro (show k ≤ 1000000 by omega) (show l.length - k ≤ 1000000 by omega))
    have HK0 : ∀ x ∈ [ofL (l.take k), ofL (l.drop k)], okC x := by
      intro x hx
      simp at hx
      rcases hx with rfl | rfl
      · exact ok_ofL _ HO.out.1
      · exact ok_ofL _ HO.out.2
    have hq := parts l k (by omega)
    obtain ⟨A, HAe⟩ : ∃ A, Hid (ofL l = A) := ⟨_, rfl⟩
    obtain ⟨X, HX⟩ : ∃ X, Hid (ofL (l.take k) = X) := ⟨_, rfl⟩
    obtain ⟨Y, HY⟩ : ∃ Y, Hid (ofL (l.drop k) = Y) := ⟨_, rfl⟩
    rw [HX.out, HY.out] at HK0 hq
    rw [HAe.out] at hq A0 E0 hN1 hN2 ⊢
    obtain ⟨T, HT⟩ : ∃ T, Hid (mergeL [X, Y] = T) := ⟨_, rfl⟩
    rw [HT.out] at hq
    have HK := Lib.hid HK0
    have HQ := Lib.hid hq
    clear HK0 hq hA2 hA3 d2
    generalize (w2.alloc (.cells #[.int .i64 A.cnt, .int .i64 A.sn, .bool A.so, .int .i64 A.mn, .int .i64 A.mx] 25)) = W at *
    generalize w2.heap.size = cb at *
    generalize Value.bool (decide (1000 < (l.length : Int))) = v12
    generalize Value.int IntKind.i64 ((l.length : Int) + 1) = v17
    rename_i Q' hh K aK
    clear hh
    have HS1 := Lib.hid hs1
    have HS2 := Lib.hid hs2
    clear hs1 hs2 HJ ht hl
    have HG : Hid (∀ (w3 : World) (db n9 : Nat), Box w3 db T → Box w3 cb A → Below w.heap.size w w3 → Exit.then K Q' Exit.normal ⟨#[.slice a l.length c, .int .u16 (t : Int), undef, undef, .bool false, .int .i64 (k : Int), .pointer (some ⟨cb, 0, none⟩), .pointer (some ⟨db, 0, none⟩), .bool true, .bool false, .slice a l.length c, .int .i64 (l.length : Int), v12, .int .u16 (t : Int), .int .i64 (t : Int), .slice a l.length c, .int .i64 (l.length : Int), v17, .int .i64 (k : Int), .slice a l.length c, .agg #[.int .i64 A.cnt, .int .i64 A.sn, .bool A.so, .int .i64 A.mn, .int .i64 A.mx], .slice a l.length c, .int .i64 (k : Int), .slice a k c, .agg #[.int .i64 X.cnt, .int .i64 X.sn, .bool X.so, .int .i64 X.mn, .int .i64 X.mx], .slice a l.length c, .int .i64 (k : Int), .slice a2 (l.length - k) (c - k), .agg #[.int .i64 Y.cnt, .int .i64 Y.sn, .bool Y.so, .int .i64 Y.mn, .int .i64 Y.mx], .slice (some ⟨n9, 0, none⟩) 2 2, .agg #[.int .i64 T.cnt, .int .i64 T.sn, .bool T.so, .int .i64 T.mn, .int .i64 T.mx], undef, undef, undef, undef, undef, undef, undef, undef, undef, undef, undef, undef, undef, undef, undef, undef, undef, undef, undef, undef, undef, undef, undef, undef, undef, undef, undef, undef, undef, undef, undef, undef, undef, undef, undef, undef, undef, undef, undef, undef, undef], []⟩ w3) := by
      intro w3 db n9 X1 A1 E1
      refine aK _ _ ?_
      clear aK
      obtain ⟨q1, q2, q3, q4, q5⟩ := HQ.out
      obtain ⟨x0, x1, x2, x3, x4⟩ := X1
      obtain ⟨a0, a1, a2, a3, a4⟩ := A1
      rw [q1] at x0
      rw [q2] at a0
      rw [q3] at x3
      rw [q4] at x4
      clear HQ HT HX HY HAe HK HO HO0 HZ HL HS1 HS2 hN1 hN2 A0 E0
      generalize T.sn = s2 at *
      generalize T.so = o2 at *
      generalize A.sn = s1 at *
      generalize A.so = o1 at *
      generalize A.mn = mn at *
      generalize A.mx = mx at *
      clear q1 q2 q3 q4
      have HQ := Lib.hid q5
      clear q5
      have k1 : IntKind.i64.wrap (l.length : Int) = (l.length : Int) := by rw [IntKind.wrap_i64]; omega
      have e0 : ((l.length : Int) == (l.length : Int)) = true := by simp
      have e1 : (mn == mn) = true := by simp
      have e2 : (mx == mx) = true := by simp
      cases o1
      · cases o2
        · have hs := HQ.out rfl rfl
          subst hs
          go_wp2_with fail
          go_ret
          exact ⟨rfl, E1⟩
        · by_cases hs : s1 = s2
          · subst hs
            go_wp2_with fail
            go_ret
            exact ⟨rfl, E1⟩
          · go_wp2_with fail
            go_ret
            exact ⟨rfl, E1⟩
      · cases o2
        · by_cases hs : s1 = s2
          · subst hs
            go_wp2_with fail
            go_ret
            exact ⟨rfl, E1⟩
          · go_wp2_with fail
            go_ret
            exact ⟨rfl, E1⟩
        · by_cases hs : s1 = s2
          · subst hs
            go_wp2_with fail
            go_ret
            exact ⟨rfl, E1⟩
          · go_wp2_with fail
            go_ret
            exact ⟨rfl, E1⟩
    have T_3_7_8_9_10_ : ∀ (w' : World) (n9 : Nat) (db : Nat) (A1 : Box w' cb A) (E : Below w.heap.size w w') (DB : Spot w' db cb w.heap.size), wpAnyH Try.prog Region.Mode.any opsS (Exit.then K Q') (fun _ => True) 1 #[true, true, true, true, true, true, true, true, true, true, true, false] ⟨#[.slice a l.length c, .int .u16 (t : Int), undef, undef, .bool false, .int .i64 (k : Int), .pointer (some ⟨cb, 0, none⟩), .pointer (some ⟨db, 0, none⟩), .bool true, .bool false, .slice a l.length c, .int .i64 (l.length : Int), v12, .int .u16 (t : Int), .int .i64 (t : Int), .slice a l.length c, .int .i64 (l.length : Int), v17, .int .i64 (k : Int), .slice a l.length c, .agg #[.int .i64 A.cnt, .int .i64 A.sn, .bool A.so, .int .i64 A.mn, .int .i64 A.mx], .slice a l.length c, .int .i64 (k : Int), .slice a k c, .agg #[.int .i64 X.cnt, .int .i64 X.sn, .bool X.so, .int .i64 X.mn, .int .i64 X.mx], .slice a l.length c, .int .i64 (k : Int), .slice a2 (l.length - k) (c - k), .agg #[.int .i64 Y.cnt, .int .i64 Y.sn, .bool Y.so, .int .i64 Y.mn, .int .i64 Y.mx], .slice (some ⟨n9, 0, none⟩) 2 2, .agg #[.int .i64 T.cnt, .int .i64 T.sn, .bool T.so, .int .i64 T.mn, .int .i64 T.mx], undef, undef, undef, undef, undef, undef, undef, undef, undef, undef, undef, undef, undef, undef, undef, undef, undef, undef, undef, undef, undef, undef, undef, undef, undef, undef, undef, undef, undef, undef, undef, undef, undef, undef, undef, undef, undef, undef, undef, undef, undef], []⟩ w' := by
      intro w' n9 db A1 E DB
      obtain ⟨r0, r1, r2, r3, r4⟩ := DB.1
      obtain ⟨f0, f1, f2, f3, f4⟩ := DB.2.1
      simp only [zero] at r0 r1 r2 r3 r4
      refine wpAnyH_ready (rs := [11]) (by kernel_rfl) (by simp) ?_
      refine AllReadyH.cons (o := { dst := none, op := Op.store 25 (Operand.tmp 7) (Operand.tmp 30), type := 0, pos := "law.go:71", after := #[{ on := 10, ground := Ground.data }, { on := 9, ground := Ground.data }, { on := 9, ground := Ground.chain }, { on := 0, ground := Ground.phase }, { on := 1, ground := Ground.phase }, { on := 2, ground := Ground.phase }, { on := 3, ground := Ground.phase }, { on := 4, ground := Ground.phase }, { on := 5, ground := Ground.phase }, { on := 6, ground := Ground.phase }, { on := 7, ground := Ground.phase }, { on := 8, ground := Ground.phase }, { on := 9, ground := Ground.phase }, { on := 10, ground := Ground.phase }], guard := none }) rfl (fun K1 hK => ?_) AllReadyH.nil
      go_simp
      clear r0 r1 r2 r3 r4 f0 f1 f2 f3 f4
      have hp := (DB.1.set T DB.2.1).1
      have A2 := A1.far T (Nat.ne_of_gt DB.2.2.1)
      have E2 := put_below T E DB.2.2.2
      refine hK.out _ _ trivial (fun _ => ?_)
      clear hK K1
      refine wpAnyH_done (by kernel_rfl) ?_ _
      have HP := Lib.hid (put_def w' db T)
      rw [← HP.out]
      generalize put w' db T = w3 at *
      clear HP DB A1 E
      exact HG.out w3 db n9 hp A2 E2
    have T_3_7_8_9_ : ∀ (w' : World) (n9 : Nat) (A1 : Box w' cb A) (E : Below w.heap.size w w'), wpAnyH Try.prog Region.Mode.any opsS (Exit.then K Q') (fun _ => True) 2 #[true, true, true, true, true, true, true, true, true, true, false, false] ⟨#[.slice a l.length c, .int .u16 (t : Int), undef, undef, .bool false, .int .i64 (k : Int), .pointer (some ⟨cb, 0, none⟩), undef, .bool true, .bool false, .slice a l.length c, .int .i64 (l.length : Int), v12, .int .u16 (t : Int), .int .i64 (t : Int), .slice a l.length c, .int .i64 (l.length : Int), v17, .int .i64 (k : Int), .slice a l.length c, .agg #[.int .i64 A.cnt, .int .i64 A.sn, .bool A.so, .int .i64 A.mn, .int .i64 A.mx], .slice a l.length c, .int .i64 (k : Int), .slice a k c, .agg #[.int .i64 X.cnt, .int .i64 X.sn, .bool X.so, .int .i64 X.mn, .int .i64 X.mx], .slice a l.length c, .int .i64 (k : Int), .slice a2 (l.length - k) (c - k), .agg #[.int .i64 Y.cnt, .int .i64 Y.sn, .bool Y.so, .int .i64 Y.mn, .int .i64 Y.mx], .slice (some ⟨n9, 0, none⟩) 2 2, .agg #[.int .i64 T.cnt, .int .i64 T.sn, .bool T.so, .int .i64 T.mn, .int .i64 T.mx], undef, undef, undef, undef, undef, undef, undef, undef, undef, undef, undef, undef, undef, undef, undef, undef, undef, undef, undef, undef, undef, undef, undef, undef, undef, undef, undef, undef, undef, undef, undef, undef, undef, undef, undef, undef, undef, undef, undef, undef, undef], []⟩ w' := by
      intro w' n9 A1 E
      refine wpAnyH_ready (rs := [10]) (by kernel_rfl) (by simp) ?_
      refine AllReadyH.cons (o := { dst := some 7, op := Op.alloc 25, type := 0, pos := "law.go:71", after := #[], guard := none }) rfl (fun K1 hK => ?_) ?_
      · go_simp
        have m1 := aBelow w' (.cells #[.int .i64 zero.cnt, .int .i64 zero.sn, .bool zero.so, .int .i64 zero.mn, .int .i64 zero.mx] 25)
        refine hK.out _ _ (trivial) (fun _ => ?_)
        clear hK K1
        simp only [List.setIfInBounds_toArray, List.set_cons_zero, List.set_cons_succ]
        exact T_3_7_8_9_10_ _ n9 (w'.heap.size) (A1.on m1) (E.trans (m1.mono E.size)) (Spot.new w' A1.lt E.size)
      exact AllReadyH.nil
    have T_3_7_8_10_ : ∀ (w' : World) (n9 : Nat) (db : Nat) (A1 : Box w' cb A) (E : Below w.heap.size w w') (N9 : CAt w' (some ⟨n9, 0, none⟩) [X, Y]) (DB : Spot w' db cb w.heap.size), wpAnyH Try.prog Region.Mode.any opsS (Exit.then K Q') (fun _ => True) 2 #[true, true, true, true, true, true, true, true, true, false, true, false] ⟨#[.slice a l.length c, .int .u16 (t : Int), undef, undef, .bool false, .int .i64 (k : Int), .pointer (some ⟨cb, 0, none⟩), .pointer (some ⟨db, 0, none⟩), .bool true, .bool false, .slice a l.length c, .int .i64 (l.length : Int), v12, .int .u16 (t : Int), .int .i64 (t : Int), .slice a l.length c, .int .i64 (l.length : Int), v17, .int .i64 (k : Int), .slice a l.length c, .agg #[.int .i64 A.cnt, .int .i64 A.sn, .bool A.so, .int .i64 A.mn, .int .i64 A.mx], .slice a l.length c, .int .i64 (k : Int), .slice a k c, .agg #[.int .i64 X.cnt, .int .i64 X.sn, .bool X.so, .int .i64 X.mn, .int .i64 X.mx], .slice a l.length c, .int .i64 (k : Int), .slice a2 (l.length - k) (c - k), .agg #[.int .i64 Y.cnt, .int .i64 Y.sn, .bool Y.so, .int .i64 Y.mn, .int .i64 Y.mx], .slice (some ⟨n9, 0, none⟩) 2 2, undef, undef, undef, undef, undef, undef, undef, undef, undef, undef, undef, undef, undef, undef, undef, undef, undef, undef, undef, undef, undef, undef, undef, undef, undef, undef, undef, undef, undef, undef, undef, undef, undef, undef, undef, undef, undef, undef, undef, undef, undef, undef], []⟩ w' := by
      intro w' n9 db A1 E N9 DB
      refine wpAnyH_ready (rs := [9]) (by kernel_rfl) (by simp) ?_
      refine AllReadyH.cons (o := { dst := some 30, op := Op.call { callee := Callee.value (Operand.func 15), args := #[Operand.tmp 29], argTypes := #[35] }, type := 25, pos := "law.go:71", after := #[{ on := 8, ground := Ground.data }, { on := 7, ground := Ground.chain }], guard := none }) rfl (fun K1 hK => ?_) ?_
      · go_simp
        refine (merge_any (some ⟨n9, 0, none⟩) 2 [X, Y] w' N9 HK.out (by simp)).mono ?_
        rintro e w4 ⟨rfl, m1⟩
        rw [HT.out]
        refine hK.out _ _ (trivial) (fun _ => ?_)
        clear hK K1
        simp only [List.setIfInBounds_toArray, List.set_cons_zero, List.set_cons_succ]
        exact T_3_7_8_9_10_ _ n9 db (A1.on m1) (E.trans (m1.mono E.size)) (DB.on m1)
      exact AllReadyH.nil
    have T_3_7_8_ : ∀ (w' : World) (n9 : Nat) (A1 : Box w' cb A) (E : Below w.heap.size w w') (N9 : CAt w' (some ⟨n9, 0, none⟩) [X, Y]), wpAnyH Try.prog Region.Mode.any opsS (Exit.then K Q') (fun _ => True) 3 #[true, true, true, true, true, true, true, true, true, false, false, false] ⟨#[.slice a l.length c, .int .u16 (t : Int), undef, undef, .bool false, .int .i64 (k : Int), .pointer (some ⟨cb, 0, none⟩), undef, .bool true, .bool false, .slice a l.length c, .int .i64 (l.length : Int), v12, .int .u16 (t : Int), .int .i64 (t : Int), .slice a l.length c, .int .i64 (l.length : Int), v17, .int .i64 (k : Int), .slice a l.length c, .agg #[.int .i64 A.cnt, .int .i64 A.sn, .bool A.so, .int .i64 A.mn, .int .i64 A.mx], .slice a l.length c, .int .i64 (k : Int), .slice a k c, .agg #[.int .i64 X.cnt, .int .i64 X.sn, .bool X.so, .int .i64 X.mn, .int .i64 X.mx], .slice a l.length c, .int .i64 (k : Int), .slice a2 (l.length - k) (c - k), .agg #[.int .i64 Y.cnt, .int .i64 Y.sn, .bool Y.so, .int .i64 Y.mn, .int .i64 Y.mx], .slice (some ⟨n9, 0, none⟩) 2 2, undef, undef, undef, undef, undef, undef, undef, undef, undef, undef, undef, undef, undef, undef, undef, undef, undef, undef, undef, undef, undef, undef, undef, undef, undef, undef, undef, undef, undef, undef, undef, undef, undef, undef, undef, undef, undef, undef, undef, undef, undef, undef], []⟩ w' := by
      intro w' n9 A1 E N9
      refine wpAnyH_ready (rs := [9, 10]) (by kernel_rfl) (by simp) ?_
      refine AllReadyH.cons (o := { dst := some 30, op := Op.call { callee := Callee.value (Operand.func 15), args := #[Operand.tmp 29], argTypes := #[35] }, type := 25, pos := "law.go:71", after := #[{ on := 8, ground := Ground.data }, { on := 7, ground := Ground.chain }], guard := none }) rfl (fun K1 hK => ?_) ?_
      · go_simp
        refine (merge_any (some ⟨n9, 0, none⟩) 2 [X, Y] w' N9 HK.out (by simp)).mono ?_
        rintro e w4 ⟨rfl, m1⟩
        rw [HT.out]
        refine hK.out _ _ (trivial) (fun _ => ?_)
        clear hK K1
        simp only [List.setIfInBounds_toArray, List.set_cons_zero, List.set_cons_succ]
        exact T_3_7_8_9_ _ n9 (A1.on m1) (E.trans (m1.mono E.size))
      refine AllReadyH.cons (o := { dst := some 7, op := Op.alloc 25, type := 0, pos := "law.go:71", after := #[], guard := none }) rfl (fun K1 hK => ?_) ?_
      · go_simp
        have m1 := aBelow w' (.cells #[.int .i64 zero.cnt, .int .i64 zero.sn, .bool zero.so, .int .i64 zero.mn, .int .i64 zero.mx] 25)
        refine hK.out _ _ (trivial) (fun _ => ?_)
        clear hK K1
        simp only [List.setIfInBounds_toArray, List.set_cons_zero, List.set_cons_succ]
        exact T_3_7_8_10_ _ n9 (w'.heap.size) (A1.on m1) (E.trans (m1.mono E.size)) (N9.on m1) (Spot.new w' A1.lt E.size)
      exact AllReadyH.nil
    have T_3_7_10_ : ∀ (w' : World) (db : Nat) (A1 : Box w' cb A) (E : Below w.heap.size w w') (DB : Spot w' db cb w.heap.size), wpAnyH Try.prog Region.Mode.any opsS (Exit.then K Q') (fun _ => True) 3 #[true, true, true, true, true, true, true, true, false, false, true, false] ⟨#[.slice a l.length c, .int .u16 (t : Int), undef, undef, .bool false, .int .i64 (k : Int), .pointer (some ⟨cb, 0, none⟩), .pointer (some ⟨db, 0, none⟩), .bool true, .bool false, .slice a l.length c, .int .i64 (l.length : Int), v12, .int .u16 (t : Int), .int .i64 (t : Int), .slice a l.length c, .int .i64 (l.length : Int), v17, .int .i64 (k : Int), .slice a l.length c, .agg #[.int .i64 A.cnt, .int .i64 A.sn, .bool A.so, .int .i64 A.mn, .int .i64 A.mx], .slice a l.length c, .int .i64 (k : Int), .slice a k c, .agg #[.int .i64 X.cnt, .int .i64 X.sn, .bool X.so, .int .i64 X.mn, .int .i64 X.mx], .slice a l.length c, .int .i64 (k : Int), .slice a2 (l.length - k) (c - k), .agg #[.int .i64 Y.cnt, .int .i64 Y.sn, .bool Y.so, .int .i64 Y.mn, .int .i64 Y.mx], undef, undef, undef, undef, undef, undef, undef, undef, undef, undef, undef, undef, undef, undef, undef, undef, undef, undef, undef, undef, undef, undef, undef, undef, undef, undef, undef, undef, undef, undef, undef, undef, undef, undef, undef, undef, undef, undef, undef, undef, undef, undef, undef], []⟩ w' := by
      intro w' db A1 E DB
      refine wpAnyH_ready (rs := [8]) (by kernel_rfl) (by simp) ?_
      refine AllReadyH.cons (o := { dst := some 29, op := Op.buildSlice 35 2 #[(0, Operand.tmp 24), (1, Operand.tmp 28)], type := 35, pos := "law.go:71", after := #[{ on := 3, ground := Ground.data }, { on := 7, ground := Ground.data }], guard := none }) rfl (fun K1 hK => ?_) ?_
      · go_simp
        have m1 := aBelow w' (.cells #[.int .i64 X.cnt, .int .i64 X.sn, .bool X.so, .int .i64 X.mn, .int .i64 X.mx, .int .i64 Y.cnt, .int .i64 Y.sn, .bool Y.so, .int .i64 Y.mn, .int .i64 Y.mx] 25)
        refine hK.out _ _ (trivial) (fun _ => ?_)
        clear hK K1
        simp only [List.setIfInBounds_toArray, List.set_cons_zero, List.set_cons_succ]
        exact T_3_7_8_10_ _ (w'.heap.size) db (A1.on m1) (E.trans (m1.mono E.size)) (cat2 w' _ X Y rfl) (DB.on m1)
      exact AllReadyH.nil
    have T_3_7_ : ∀ (w' : World) (A1 : Box w' cb A) (E : Below w.heap.size w w'), wpAnyH Try.prog Region.Mode.any opsS (Exit.then K Q') (fun _ => True) 4 #[true, true, true, true, true, true, true, true, false, false, false, false] ⟨#[.slice a l.length c, .int .u16 (t : Int), undef, undef, .bool false, .int .i64 (k : Int), .pointer (some ⟨cb, 0, none⟩), undef, .bool true, .bool false, .slice a l.length c, .int .i64 (l.length : Int), v12, .int .u16 (t : Int), .int .i64 (t : Int), .slice a l.length c, .int .i64 (l.length : Int), v17, .int .i64 (k : Int), .slice a l.length c, .agg #[.int .i64 A.cnt, .int .i64 A.sn, .bool A.so, .int .i64 A.mn, .int .i64 A.mx], .slice a l.length c, .int .i64 (k : Int), .slice a k c, .agg #[.int .i64 X.cnt, .int .i64 X.sn, .bool X.so, .int .i64 X.mn, .int .i64 X.mx], .slice a l.length c, .int .i64 (k : Int), .slice a2 (l.length - k) (c - k), .agg #[.int .i64 Y.cnt, .int .i64 Y.sn, .bool Y.so, .int .i64 Y.mn, .int .i64 Y.mx], undef, undef, undef, undef, undef, undef, undef, undef, undef, undef, undef, undef, undef, undef, undef, undef, undef, undef, undef, undef, undef, undef, undef, undef, undef, undef, undef, undef, undef, undef, undef, undef, undef, undef, undef, undef, undef, undef, undef, undef, undef, undef, undef], []⟩ w' := by
      intro w' A1 E
      refine wpAnyH_ready (rs := [8, 10]) (by kernel_rfl) (by simp) ?_
      refine AllReadyH.cons (o := { dst := some 29, op := Op.buildSlice 35 2 #[(0, Operand.tmp 24), (1, Operand.tmp 28)], type := 35, pos := "law.go:71", after := #[{ on := 3, ground := Ground.data }, { on := 7, ground := Ground.data }], guard := none }) rfl (fun K1 hK => ?_) ?_
      · go_simp
        have m1 := aBelow w' (.cells #[.int .i64 X.cnt, .int .i64 X.sn, .bool X.so, .int .i64 X.mn, .int .i64 X.mx, .int .i64 Y.cnt, .int .i64 Y.sn, .bool Y.so, .int .i64 Y.mn, .int .i64 Y.mx] 25)
        refine hK.out _ _ (trivial) (fun _ => ?_)
        clear hK K1
        simp only [List.setIfInBounds_toArray, List.set_cons_zero, List.set_cons_succ]
        exact T_3_7_8_ _ (w'.heap.size) (A1.on m1) (E.trans (m1.mono E.size)) (cat2 w' _ X Y rfl)
      refine AllReadyH.cons (o := { dst := some 7, op := Op.alloc 25, type := 0, pos := "law.go:71", after := #[], guard := none }) rfl (fun K1 hK => ?_) ?_
      · go_simp
        have m1 := aBelow w' (.cells #[.int .i64 zero.cnt, .int .i64 zero.sn, .bool zero.so, .int .i64 zero.mn, .int .i64 zero.mx] 25)
        refine hK.out _ _ (trivial) (fun _ => ?_)
        clear hK K1
        simp only [List.setIfInBounds_toArray, List.set_cons_zero, List.set_cons_succ]
        exact T_3_7_10_ _ (w'.heap.size) (A1.on m1) (E.trans (m1.mono E.size)) (Spot.new w' A1.lt E.size)
      exact AllReadyH.nil
    have T_3_10_ : ∀ (w' : World) (db : Nat) (A1 : Box w' cb A) (E : Below w.heap.size w w') (N2 : IAt w' a2 (l.drop k)) (DB : Spot w' db cb w.heap.size), wpAnyH Try.prog Region.Mode.any opsS (Exit.then K Q') (fun _ => True) 4 #[true, true, true, true, true, true, true, false, false, false, true, false] ⟨#[.slice a l.length c, .int .u16 (t : Int), undef, undef, .bool false, .int .i64 (k : Int), .pointer (some ⟨cb, 0, none⟩), .pointer (some ⟨db, 0, none⟩), .bool true, .bool false, .slice a l.length c, .int .i64 (l.length : Int), v12, .int .u16 (t : Int), .int .i64 (t : Int), .slice a l.length c, .int .i64 (l.length : Int), v17, .int .i64 (k : Int), .slice a l.length c, .agg #[.int .i64 A.cnt, .int .i64 A.sn, .bool A.so, .int .i64 A.mn, .int .i64 A.mx], .slice a l.length c, .int .i64 (k : Int), .slice a k c, .agg #[.int .i64 X.cnt, .int .i64 X.sn, .bool X.so, .int .i64 X.mn, .int .i64 X.mx], .slice a l.length c, .int .i64 (k : Int), .slice a2 (l.length - k) (c - k), undef, undef, undef, undef, undef, undef, undef, undef, undef, undef, undef, undef, undef, undef, undef, undef, undef, undef, undef, undef, undef, undef, undef, undef, undef, undef, undef, undef, undef, undef, undef, undef, undef, undef, undef, undef, undef, undef, undef, undef, undef, undef, undef, undef], []⟩ w' := by
      intro w' db A1 E N2 DB
      refine wpAnyH_ready (rs := [7]) (by kernel_rfl) (by simp) ?_
      refine AllReadyH.cons (o := { dst := some 28, op := Op.call { callee := Callee.value (Operand.func 13), args := #[Operand.tmp 27], argTypes := #[31] }, type := 25, pos := "law.go:71", after := #[{ on := 6, ground := Ground.data }, { on := 3, ground := Ground.chain }], guard := none }) rfl (fun K1 hK => ?_) ?_
      · go_simp
        refine (ofs_len a2 (c - k) (l.length - k) (l.drop k) w' N2 HO.out.2 HZ.out.2 HL.out.2).mono ?_
        rintro e w4 ⟨rfl, m1⟩
        rw [HY.out]
        refine hK.out _ _ (trivial) (fun _ => ?_)
        clear hK K1
        simp only [List.setIfInBounds_toArray, List.set_cons_zero, List.set_cons_succ]
        exact T_3_7_10_ _ db (A1.on m1) (E.trans (m1.mono E.size)) (DB.on m1)
      exact AllReadyH.nil
    have T_3_ : ∀ (w' : World) (A1 : Box w' cb A) (E : Below w.heap.size w w') (N2 : IAt w' a2 (l.drop k)), wpAnyH Try.prog Region.Mode.any opsS (Exit.then K Q') (fun _ => True) 5 #[true, true, true, true, true, true, true, false, false, false, false, false] ⟨#[.slice a l.length c, .int .u16 (t : Int), undef, undef, .bool false, .int .i64 (k : Int), .pointer (some ⟨cb, 0, none⟩), undef, .bool true, .bool false, .slice a l.length c, .int .i64 (l.length : Int), v12, .int .u16 (t : Int), .int .i64 (t : Int), .slice a l.length c, .int .i64 (l.length : Int), v17, .int .i64 (k : Int), .slice a l.length c, .agg #[.int .i64 A.cnt, .int .i64 A.sn, .bool A.so, .int .i64 A.mn, .int .i64 A.mx], .slice a l.length c, .int .i64 (k : Int), .slice a k c, .agg #[.int .i64 X.cnt, .int .i64 X.sn, .bool X.so, .int .i64 X.mn, .int .i64 X.mx], .slice a l.length c, .int .i64 (k : Int), .slice a2 (l.length - k) (c - k), undef, undef, undef, undef, undef, undef, undef, undef, undef, undef, undef, undef, undef, undef, undef, undef, undef, undef, undef, undef, undef, undef, undef, undef, undef, undef, undef, undef, undef, undef, undef, undef, undef, undef, undef, undef, undef, undef, undef, undef, undef, undef, undef, undef], []⟩ w' := by
      intro w' A1 E N2
      refine wpAnyH_ready (rs := [7, 10]) (by kernel_rfl) (by simp) ?_
      refine AllReadyH.cons (o := { dst := some 28, op := Op.call { callee := Callee.value (Operand.func 13), args := #[Operand.tmp 27], argTypes := #[31] }, type := 25, pos := "law.go:71", after := #[{ on := 6, ground := Ground.data }, { on := 3, ground := Ground.chain }], guard := none }) rfl (fun K1 hK => ?_) ?_
      · go_simp
        refine (ofs_len a2 (c - k) (l.length - k) (l.drop k) w' N2 HO.out.2 HZ.out.2 HL.out.2).mono ?_
        rintro e w4 ⟨rfl, m1⟩
        rw [HY.out]
        refine hK.out _ _ (trivial) (fun _ => ?_)
        clear hK K1
        simp only [List.setIfInBounds_toArray, List.set_cons_zero, List.set_cons_succ]
        exact T_3_7_ _ (A1.on m1) (E.trans (m1.mono E.size))
      refine AllReadyH.cons (o := { dst := some 7, op := Op.alloc 25, type := 0, pos := "law.go:71", after := #[], guard := none }) rfl (fun K1 hK => ?_) ?_
      · go_simp
        have m1 := aBelow w' (.cells #[.int .i64 zero.cnt, .int .i64 zero.sn, .bool zero.so, .int .i64 zero.mn, .int .i64 zero.mx] 25)
        refine hK.out _ _ (trivial) (fun _ => ?_)
        clear hK K1
        simp only [List.setIfInBounds_toArray, List.set_cons_zero, List.set_cons_succ]
        exact T_3_10_ _ (w'.heap.size) (A1.on m1) (E.trans (m1.mono E.size)) (N2.on m1) (Spot.new w' A1.lt E.size)
      exact AllReadyH.nil
    have T_10_ : ∀ (w' : World) (db : Nat) (A1 : Box w' cb A) (E : Below w.heap.size w w') (N1 : IAt w' a (l.take k)) (N2 : IAt w' a2 (l.drop k)) (DB : Spot w' db cb w.heap.size), wpAnyH Try.prog Region.Mode.any opsS (Exit.then K Q') (fun _ => True) 5 #[true, true, true, false, true, true, true, false, false, false, true, false] ⟨#[.slice a l.length c, .int .u16 (t : Int), undef, undef, .bool false, .int .i64 (k : Int), .pointer (some ⟨cb, 0, none⟩), .pointer (some ⟨db, 0, none⟩), .bool true, .bool false, .slice a l.length c, .int .i64 (l.length : Int), v12, .int .u16 (t : Int), .int .i64 (t : Int), .slice a l.length c, .int .i64 (l.length : Int), v17, .int .i64 (k : Int), .slice a l.length c, .agg #[.int .i64 A.cnt, .int .i64 A.sn, .bool A.so, .int .i64 A.mn, .int .i64 A.mx], .slice a l.length c, .int .i64 (k : Int), .slice a k c, undef, .slice a l.length c, .int .i64 (k : Int), .slice a2 (l.length - k) (c - k), undef, undef, undef, undef, undef, undef, undef, undef, undef, undef, undef, undef, undef, undef, undef, undef, undef, undef, undef, undef, undef, undef, undef, undef, undef, undef, undef, undef, undef, undef, undef, undef, undef, undef, undef, undef, undef, undef, undef, undef, undef, undef, undef, undef], []⟩ w' := by
      intro w' db A1 E N1 N2 DB
      refine wpAnyH_ready (rs := [3]) (by kernel_rfl) (by simp) ?_
      refine AllReadyH.cons (o := { dst := some 24, op := Op.call { callee := Callee.value (Operand.func 13), args := #[Operand.tmp 23], argTypes := #[31] }, type := 25, pos := "law.go:71", after := #[{ on := 2, ground := Ground.data }], guard := none }) rfl (fun K1 hK => ?_) ?_
      · go_simp
        refine (ofs_len a c k (l.take k) w' N1 HO.out.1 HZ.out.1 HL.out.1).mono ?_
        rintro e w4 ⟨rfl, m1⟩
        rw [HX.out]
        refine hK.out _ _ (trivial) (fun _ => ?_)
        clear hK K1
        simp only [List.setIfInBounds_toArray, List.set_cons_zero, List.set_cons_succ]
        exact T_3_10_ _ db (A1.on m1) (E.trans (m1.mono E.size)) (N2.on m1) (DB.on m1)
      exact AllReadyH.nil
    have T_ : ∀ (w' : World) (A1 : Box w' cb A) (E : Below w.heap.size w w') (N1 : IAt w' a (l.take k)) (N2 : IAt w' a2 (l.drop k)), wpAnyH Try.prog Region.Mode.any opsS (Exit.then K Q') (fun _ => True) 6 #[true, true, true, false, true, true, true, false, false, false, false, false] ⟨#[.slice a l.length c, .int .u16 (t : Int), undef, undef, .bool false, .int .i64 (k : Int), .pointer (some ⟨cb, 0, none⟩), undef, .bool true, .bool false, .slice a l.length c, .int .i64 (l.length : Int), v12, .int .u16 (t : Int), .int .i64 (t : Int), .slice a l.length c, .int .i64 (l.length : Int), v17, .int .i64 (k : Int), .slice a l.length c, .agg #[.int .i64 A.cnt, .int .i64 A.sn, .bool A.so, .int .i64 A.mn, .int .i64 A.mx], .slice a l.length c, .int .i64 (k : Int), .slice a k c, undef, .slice a l.length c, .int .i64 (k : Int), .slice a2 (l.length - k) (c - k), undef, undef, undef, undef, undef, undef, undef, undef, undef, undef, undef, undef, undef, undef, undef, undef, undef, undef, undef, undef, undef, undef, undef, undef, undef, undef, undef, undef, undef, undef, undef, undef, undef, undef, undef, undef, undef, undef, undef, undef, undef, undef, undef, undef], []⟩ w' := by
      intro w' A1 E N1 N2
      refine wpAnyH_ready (rs := [3, 10]) (by kernel_rfl) (by simp) ?_
      refine AllReadyH.cons (o := { dst := some 24, op := Op.call { callee := Callee.value (Operand.func 13), args := #[Operand.tmp 23], argTypes := #[31] }, type := 25, pos := "law.go:71", after := #[{ on := 2, ground := Ground.data }], guard := none }) rfl (fun K1 hK => ?_) ?_
      · go_simp
        refine (ofs_len a c k (l.take k) w' N1 HO.out.1 HZ.out.1 HL.out.1).mono ?_
        rintro e w4 ⟨rfl, m1⟩
        rw [HX.out]
        refine hK.out _ _ (trivial) (fun _ => ?_)
        clear hK K1
        simp only [List.setIfInBounds_toArray, List.set_cons_zero, List.set_cons_succ]
        exact T_3_ _ (A1.on m1) (E.trans (m1.mono E.size)) (N2.on m1)
      refine AllReadyH.cons (o := { dst := some 7, op := Op.alloc 25, type := 0, pos := "law.go:71", after := #[], guard := none }) rfl (fun K1 hK => ?_) ?_
      · go_simp
        have m1 := aBelow w' (.cells #[.int .i64 zero.cnt, .int .i64 zero.sn, .bool zero.so, .int .i64 zero.mn, .int .i64 zero.mx] 25)
        refine hK.out _ _ (trivial) (fun _ => ?_)
        clear hK K1
        simp only [List.setIfInBounds_toArray, List.set_cons_zero, List.set_cons_succ]
        exact T_10_ _ (w'.heap.size) (A1.on m1) (E.trans (m1.mono E.size)) (N1.on m1) (N2.on m1) (Spot.new w' A1.lt E.size)
      exact AllReadyH.nil
    refine wp_region_held_drew (ops := opsS) (S := fun _ => True) (by kernel_rfl) trivial (fun hHeld => ?_)
    have hrep : Array.replicate opsS.size false = #[false, false, false, false, false, false, false, false, false, false, false, false] := by kernel_rfl
    have hsz : opsS.size = 12 := by kernel_rfl
    rw [hrep, hsz]
    refine wpAnyH_take (i := 0) (oi := { dst := some 21, op := Op.move (Operand.tmp 0), type := 31, pos := "law.go:71", after := #[], guard := none }) (v := ?_) rfl (by kernel_rfl) (by kernel_rfl) (by kernel_rfl) (fun _ _ _ h => h) (Or.inl ⟨by rfl, ?_⟩) hHeld ?_
    rotate_left
    · intro w hSw
      (try dsimp only at hSw)
      go_simp
      (try with_reducible rfl)
    (try simp only [Act.put, List.setIfInBounds_toArray, List.set_cons_zero, List.set_cons_succ])
    refine wpAnyH_take (i := 1) (oi := { dst := some 22, op := Op.move (Operand.tmp 5), type := 3, pos := "law.go:71", after := #[], guard := none }) (v := ?_) rfl (by kernel_rfl) (by kernel_rfl) (by kernel_rfl) (fun _ _ _ h => h) (Or.inl ⟨by rfl, ?_⟩) hHeld ?_
    rotate_left
    · intro w hSw
      (try dsimp only at hSw)
      go_simp
      (try with_reducible rfl)
    (try simp only [Act.put, List.setIfInBounds_toArray, List.set_cons_zero, List.set_cons_succ])
    have hs1 := HS1.out
    refine wpAnyH_take (i := 2) (oi := { dst := some 23, op := Op.slice 31 (Operand.tmp 21) none (some (Operand.tmp 22)) none, type := 31, pos := "law.go:71", after := #[{ on := 0, ground := Ground.data }, { on := 1, ground := Ground.data }], guard := none }) (v := .slice a k c) rfl (by kernel_rfl) (by kernel_rfl) (by kernel_rfl) (fun _ _ _ h => h) (Or.inl ⟨by rfl, ?_⟩) hHeld ?_
    · intro w hSw
      (try dsimp only at hSw)
      go_simp
      (try with_reducible rfl)
    (try simp only [Act.put, List.setIfInBounds_toArray, List.set_cons_zero, List.set_cons_succ])
    clear hs1
    refine wpAnyH_take (i := 4) (oi := { dst := some 25, op := Op.move (Operand.tmp 0), type := 31, pos := "law.go:71", after := #[], guard := none }) (v := ?_) rfl (by kernel_rfl) (by kernel_rfl) (by kernel_rfl) (fun _ _ _ h => h) (Or.inl ⟨by rfl, ?_⟩) hHeld ?_
    rotate_left
    · intro w hSw
      (try dsimp only at hSw)
      go_simp
      (try with_reducible rfl)
    (try simp only [Act.put, List.setIfInBounds_toArray, List.set_cons_zero, List.set_cons_succ])
    refine wpAnyH_take (i := 5) (oi := { dst := some 26, op := Op.move (Operand.tmp 5), type := 3, pos := "law.go:71", after := #[], guard := none }) (v := ?_) rfl (by kernel_rfl) (by kernel_rfl) (by kernel_rfl) (fun _ _ _ h => h) (Or.inl ⟨by rfl, ?_⟩) hHeld ?_
    rotate_left
    · intro w hSw
      (try dsimp only at hSw)
      go_simp
      (try with_reducible rfl)
    (try simp only [Act.put, List.setIfInBounds_toArray, List.set_cons_zero, List.set_cons_succ])
    have hs2 := HS2.out
    refine wpAnyH_take (i := 6) (oi := { dst := some 27, op := Op.slice 31 (Operand.tmp 25) (some (Operand.tmp 26)) none none, type := 31, pos := "law.go:71", after := #[{ on := 4, ground := Ground.data }, { on := 5, ground := Ground.data }], guard := none }) (v := .slice a2 (l.length - k) (c - k)) rfl (by kernel_rfl) (by kernel_rfl) (by kernel_rfl) (fun _ _ _ h => h) (Or.inl ⟨by rfl, ?_⟩) hHeld ?_
    · intro w hSw
      (try dsimp only at hSw)
      go_simp
      (try with_reducible rfl)
    (try simp only [Act.put, List.setIfInBounds_toArray, List.set_cons_zero, List.set_cons_succ])
    clear hs2
    exact T_ W.drew A0 E0.drew hN1 hN2
end Go.Proofs.Ytnpnikgbjdeboaa
