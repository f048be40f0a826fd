/- Items by their keys: the comparison, the stable sort and the copy that is sorted: walks. -/
import Derived.Test.YtidkpalckafgkaaGreatDoorD3
import Derived.Test.YtidkpalckafgkaaGreatDoorD4
namespace Go.Proofs.YtidkpalckafgkaaGreatDoor.Rw
open Go Go.RowKit Go.Sort Go.Lib Tg Pk Ky Qy

set_option maxRecDepth 100000 in
set_option maxHeartbeats 1000000 in
theorem itemCmp_any (x y : Item) (W : World) : Calls Tryz.prog 125 #[.agg (itC x).toArray, .agg (itC y).toArray] W fun e w' => e = .returned (.int .i64 (kcf x y)) ∧ ∃ q os, w' = grow (W.drewN q) os := by
  obtain ⟨x1, x2, x3, x4, x5, x6, x7⟩ := x
  obtain ⟨y1, y2, y3, y4, y5, y6, y7⟩ := y
  show Calls Tryz.prog 125 #[.agg #[.int .i64 x1, .string x2, .int .i64 x3, .int .i64 x4, .bool x5, .int .i64 x6, .int .i64 x7], .agg #[.int .i64 y1, .string y2, .int .i64 y3, .int .i64 y4, .bool y5, .int .i64 y6, .int .i64 y7]] W (fun e w' => e = .returned (.int .i64 (Lib.compareBytes x2.data.toList y2.data.toList)) ∧ ∃ q os, w' = grow (W.drewN q) os)
  go_enter Tryz.func125, Tryz.ntmps125
  go_wp2_with (first | (go_at_call 66; refine (Tryz.strings_Compare _ _ _).mono ?_; rintro e w1 ⟨rfl, rfl⟩))
  go_ret
  exact ⟨rfl, ((Gw.refl W).alloc _).alloc _⟩
theorem enters125 : ∀ args w, (callFunc 125 args).run Tryz.prog w = .ok (.enter 125 args) w := enters_of Tryz.func125 (by kernel_rfl) rfl

theorem rowsK : ltOf kcf = klt := by funext a b; exact kcf_lt a b

/-- The sort of a slice that the call made. -/
theorem stableI (g cap : Nat) (l : List Item) (base : Nat) (w0 w : World) (hd : Below base w0 w) (hO : w.ownsRow base 50 7 (.slice (some ⟨g, 0, none⟩) l.length cap) l.length (flatG itC l)) (hb : base ≤ w.heap.size) (hn : l.length ≤ 1000000) :
    Calls Tryz.prog 172 #[.slice (some ⟨g, 0, none⟩) l.length cap, .int .i64 l.length, .func (.func 125) #[] #[]] w fun e w' => e = .returned (.tuple #[]) ∧ ILies w' g 0 (sortK l) ∧ g < w'.heap.size ∧ Below base w0 w' := by
  obtain ⟨_, hg, hbg, _⟩ := ownG_cells itC_len rfl hO
  obtain ⟨d0, hd0⟩ : ∃ d0 : Array (Item × Nat), d0 = l.zipIdx.toArray := ⟨_, rfl⟩
  have hz : d0.size = l.length := by rw [hd0]; simp
  have hlen : ∀ x : Item × Nat, (encZ itC x).length = 7 := fun x => itC_len x.1
  have hone : ∀ x : Item × Nat, ∀ v ∈ encZ itC x, v.oneCell' = true := fun x => itC_one x.1
  have hfl : flatG (encZ itC) l.zipIdx = flatG itC l := by
    unfold flatG
    have : l = l.zipIdx.map Prod.fst := (List.zipIdx_map_fst 0 l).symm
    conv => rhs; rw [this]
    rw [List.flatMap_map]
    rfl
  have hH : HoldsK (encZ itC) 7 w g 0 d0 := by
    rw [hd0]
    exact ownG_holds (enc := encZ itC) (T := 50) (base := base) (cap := cap) hlen (by decide) (n := l.length) (by simp) (by rw [hfl]; exact hO)
  have R : RowK (encZ itC) 7 w g 0 d0 := ⟨hlen, hone, hH, hg⟩
  have hcmp : CmpLays Tryz.prog 125 #[] (encZ itC) 7 (cfZ kcf) g 0 l.length w := fun m os dk _ x y => itemCmp_any x.1 y.1 _
  have hO2 : SWO (ltOf kcf) := by rw [rowsK]; exact klt_swo
  refine (stable_gen pf itC kcf hO2 125 #[] g 0 cap l.length l d0 w hd0 enters125 hcmp R hz (by omega) ?_).mono ?_
  · intro a b d W hds S hab hbs
    have hC : CmpLays Tryz.prog 125 #[] (encZ itC) 7 (cfZ kcf) g 0 d.size W := fun m os dk _ x y => itemCmp_any x.1 y.1 _
    have hO3 : SWO (ltOf (cfZ kcf)) := ⟨fun x => hO2.irrefl x.1, fun x y z => hO2.trans x.1 y.1 z.1, fun x y z => hO2.ntrans x.1 y.1 z.1⟩
    have hs' : (Sort.insertionSort (ltOf (cfZ kcf)) d a b).size = d.size := (insertionSort_holds hO3 d a b hab (by omega)).1.1
    have := Tryz.insertionSort_item 7 pf.aE pf.zE (encZ itC) hlen hone (cfZ kcf) 125 #[] g 0 cap a b d W enters125 hC (S.holds hg hH (by omega)) (S.lt hg) hab (by omega) (by omega)
    rw [hds] at this
    refine this.mono ?_
    rintro e w' ⟨rfl, n, os, rfl⟩
    exact ⟨rfl, S.on hg n _ os hs'⟩
  · rintro e w' ⟨rfl, r, hS, hr⟩
    have hsz : r.size = d0.size := by
      have := congrArg List.length hr
      rw [List.length_map, Array.length_toList] at this
      rw [this, hz]
      have h2 := (sortK_perm l).length_eq
      unfold sortK at h2
      rw [rowsK]; exact h2
    have hL := holds_liesG hlen (hS.holds hg hH hsz)
    obtain ⟨n, os, rfl⟩ := hS
    refine ⟨rfl, ?_, Nat.lt_of_lt_of_le hg (size_sortWorldK_c _ _ _ _ _ _ _ _), below_sortG hd hb hbg⟩
    have hr2 : r.toList.map Prod.fst = sortK l := by rw [hr]; unfold sortK; rw [rowsK]
    rw [← hr2]
    intro i hi j u hu
    have hi' : i < r.toList.length := by rw [List.length_map] at hi; exact hi
    rw [List.getElem_map] at hu
    exact hL i hi' j u hu

set_option maxRecDepth 100000 in
set_option maxHeartbeats 1000000 in
theorem ins0 (a : Option Addr) (n c : Nat) (w : World) : Calls Tryz.prog 201 #[.slice a n c, .int .i64 0, .int .i64 0, .func (.func 125) #[] #[]] w fun e w' => e = .returned (.tuple #[]) ∧ w' = w := by
  go_enter Tryz.func201, Tryz.ntmps201
  go_wp2
  refine wp_loop_rounds 1 ?_
  rw [rounds_succ]
  go_wp2
  go_end0
  exact ⟨rfl, rfl⟩
set_option maxRecDepth 100000 in
set_option maxHeartbeats 1000000 in
theorem stable0 (a : Option Addr) (c : Nat) (w : World) : Calls Tryz.prog 172 #[.slice a 0 c, .int .i64 0, .func (.func 125) #[] #[]] w fun e w' => e = .returned (.tuple #[]) ∧ w' = w := by
  have H := Lib.hid (ins0 a 0 c w)
  go_enter Tryz.func172, Tryz.ntmps172
  go_wp2
  refine wp_loop_rounds 1 ?_
  rw [rounds_succ]
  go_wp2_with (first | (go_at_call 201; refine (H.out).mono ?_; rintro e w1 ⟨rfl, rfl⟩))
  refine wp_loop_rounds 1 ?_
  rw [rounds_succ]
  go_wp2
  go_end0
  exact ⟨rfl, rfl⟩

end Go.Proofs.YtidkpalckafgkaaGreatDoor.Rw
