/- Contracts: spec.l08Text, spec.PoolText and impl.PoolText write a pool's text. -/
import Derived.Test.YtjnicmlomjppnaaGreatDoorChecked
import Derived.Test.YtjnicmlomjppnaaGreatDoorBase0
import Derived.Test.YtjnicmlomjppnaaGreatDoorPoolA
import Derived.Test.YtjnicmlomjppnaaGreatDoorDec
import Derived.Test.YtjnicmlomjppnaaGreatDoorListT
import Derived.Test.YtjnicmlomjppnaaGreatDoorJoin
import Derived.Test.YtjnicmlomjppnaaGreatDoorSpec80
import Derived.Test.YtjnicmlomjppnaaGreatDoorImpl8b
import Derived.WalkKit
import Derived.WalkSpells
import Derived.WalkLawsBesides
import Derived.Lib.Hide
import Derived.Deep.RegionHeld3
namespace Go.Proofs.YtjnicmlomjppnaaGreatDoor
open Go.RowKit Pure1 Pure2 Pure3 Pure4 Pure30 Pure40 Pure42 Pure60 Pure80

/-- a pool's text -/
def textQ (p : PoolV) : ByteArray := listT p.nums ++ slash ++ listT p.drawn ++ slash ++ decB p.state
/-- PoolText's answer -/
noncomputable def textOfQ (p : PoolV) : ByteArray × Int := if isPool p = true then (textQ p, 0) else (⟨#[]⟩, 1)
theorem pool_vals {p : PoolV} (h : isPool p = true) : p.nums.all isVal = true ∧ p.drawn.all isVal = true := by
  have hr := pool_range h
  exact ⟨List.all_eq_true.2 fun x hx => (isVal_iff x).2 (by have := hr x hx; omega), List.all_eq_true.2 fun x hx => (isVal_iff x).2 (by have := hr x (pool_sub h x hx); omega)⟩
theorem listT_size8 {zs : List Int} (h : zs.all isVal = true) (hl : zs.length ≤ 60) : (listT zs).size ≤ 121000000 := by
  by_cases h0 : zs = []
  · subst h0; decide
  · rw [listT_some h0]
    have := joinN_size zs comma zs.length h (by omega) (by decide)
    rwa [List.take_of_length_le (by rw [List.length_map]; exact Nat.le_refl _)] at this
theorem pool_listText {zs : List Int} (h : zs.all isVal = true) (hl : zs.length ≤ 60) : listText zs = (listT zs, 0) := by rw [listText, if_pos (listErr_zero h hl)]
theorem join_three (a b c : ByteArray) : (⟨(Lib.join (([a, b, c] : List ByteArray).map (·.data.toList)) slash.data.toList).toArray⟩ : ByteArray) = a ++ slash ++ b ++ slash ++ c := by
  rw [← mk_toList (a ++ slash ++ b ++ slash ++ c)]
  congr 1
  simp [Lib.join, slash, ByteArray.data_append]
theorem alloc_strs8 (w : World) (T : TypeId) (ss : List ByteArray) : ∀ (i : Nat) (x : ByteArray), ss[i]? = some x → (w.alloc (.cells (ss.map Value.string).toArray T)).cell? ⟨w.heap.size, i, none⟩ = some (.string x) := by
  intro i x hx
  have : (w.alloc (.cells (ss.map Value.string).toArray T)).heap[w.heap.size]? = some (.cells (ss.map Value.string).toArray T) := heap_alloc_new w _
  unfold World.cell?
  rw [this]
  simp [hx]

set_option maxRecDepth 100000 in
set_option maxHeartbeats 4000000 in
theorem specText8_any (a0 : Option Addr) (l0 c0 : Nat) (a1 : Option Addr) (l1 c1 : Nat) (p : PoolV) (w : World) (hI : PoolV.In w a0 l0 a1 l1 p) (hp : isPool p = true) :
    Calls Tryz.prog 19 #[.agg #[.slice a0 l0 c0, .slice a1 l1 c1, .int .i64 p.state]] w (SaysT (textQ p) w) := by
  have hv := pool_vals hp
  have hn := pool_len hp; have hd := pool_dlen hp
  have hst := pool_state hp
  have e0 := hI.1.1; have e1 := hI.2.1
  have hs0 := listT_size8 hv.1 hn; have hs1 := listT_size8 hv.2 (by omega)
  have hs2 := decB_size (n := p.state) (by omega) (by omega)
  have HW := Lib.hid (boxed w (.cells #[.slice a0 l0 c0, .slice a1 l1 c1, .int .i64 p.state] 26))
  have HX := Lib.hid (PoolV.boxed w a0 l0 c0 a1 l1 c1 p 26)
  have HI := Lib.hid (hI.below HW.out)
  have HN := Lib.hid (show textQ p = listT p.nums ++ slash ++ listT p.drawn ++ slash ++ decB p.state from rfl)
  have HC0 := Lib.hid (fun W (hx : IntsIn W a0 l0 p.nums) => specText_any a0 l0 c0 p.nums W hx.1 (by omega) hx.2.2 hv.1)
  have HC1 := Lib.hid (fun W (hx : IntsIn W a1 l1 p.drawn) => specText_any a1 l1 c1 p.drawn W hx.1 (by omega) hx.2.2 hv.2)
  have HC2 := Lib.hid (fun W => specDec_any p.state.toNat p.state W (by omega) (by omega) (by omega))
  generalize textQ p = tq at HN ⊢
  obtain ⟨t0, ht0⟩ : ∃ t, listT p.nums = t := ⟨_, rfl⟩
  obtain ⟨t1, ht1⟩ : ∃ t, listT p.drawn = t := ⟨_, rfl⟩
  obtain ⟨t2, ht2⟩ : ∃ t, decB p.state = t := ⟨_, rfl⟩
  rw [ht0] at HN HC0 hs0; rw [ht1] at HN HC1 hs1; rw [ht2] at HN HC2 hs2
  clear ht0 ht1 ht2 hv e0 e1 hI hp hst
  have z0 : ¬ 9223372036854775807 < t0.size + 1 := by omega
  have z1 : ¬ 9223372036854775807 < t0.size + 1 + t1.size := by omega
  have z2 : ¬ 9223372036854775807 < t0.size + 1 + t1.size + 1 := by omega
  have z3 : ¬ 9223372036854775807 < t0.size + 1 + t1.size + 1 + t2.size := by omega
  go_enter Tryz.func19, Tryz.ntmps19
  go_wp2_with fail
  generalize w.alloc (.cells #[.slice a0 l0 c0, .slice a1 l1 c1, .int .i64 p.state] 26) = w1 at HW HX HI ⊢
  obtain ⟨bx, hbx⟩ : ∃ b, w.heap.size = b := ⟨_, rfl⟩
  have HB0 := Lib.hid HW.out
  rw [hbx] at HX ⊢
  clear hbx HW
  have hdr := Below.drew (Below.refl w1.heap.size w1)
  have HXd := Lib.hid (HX.out.below hdr); have HId := Lib.hid (HI.out.below hdr)
  have HBd := Lib.hid (HB0.out.trans (hdr.mono HB0.out.size))
  clear hdr HX HI HB0
  go_region_held3 (fun W => W.cell? ⟨bx, 0, none⟩ = some (.slice a0 l0 c0) ∧ W.cell? ⟨bx, 1, none⟩ = some (.slice a1 l1 c1) ∧ W.cell? ⟨bx, 2, none⟩ = some (.int .i64 p.state)) (first | exact ((HXd.out.below hB1).below hB2).below hB3 | exact (HXd.out.below hB1).below hB2 | exact HXd.out.below hB1 | exact HXd.out) (first | (go_at_call 46; refine (HC2.out w3).mono ?_; rintro e w4 ⟨rfl, hB3⟩) | (go_at_call 45; refine (HC1.out w2 (HId.out.below hB1).2).mono ?_; rintro e w3 ⟨rfl, hB2⟩) | (go_at_call 45; refine (HC0.out w1.drew HId.out.1).mono ?_; rintro e w2 ⟨rfl, hB1⟩))
  all_goals
    have HB := Lib.hid (((HBd.out.trans (hB1.mono HBd.out.size)).trans (hB2.mono (HBd.out.trans (hB1.mono HBd.out.size)).size)).trans (hB3.mono ((HBd.out.trans (hB1.mono HBd.out.size)).trans (hB2.mono (HBd.out.trans (hB1.mono HBd.out.size)).size)).size))
    clear hB1 hB2 hB3
    (try go_wp2_with fail)
    (try simp only [Exit.inBlock, Exit.then])
    go_ret
    exact ⟨ret_str HN.out.symm, HB.out⟩

set_option maxRecDepth 100000 in
set_option maxHeartbeats 2000000 in
theorem specPoolText_any (a0 : Option Addr) (l0 c0 : Nat) (a1 : Option Addr) (l1 c1 : Nat) (p : PoolV) (w : World) (hI : PoolV.In w a0 l0 a1 l1 p) (hc1 : l1 ≤ c1) :
    Calls Tryz.prog 7 #[.agg #[.slice a0 l0 c0, .slice a1 l1 c1, .int .i64 p.state]] w (SaysT2 (textOfQ p).1 (textOfQ p).2 w) := by
  have HW := Lib.hid (boxed w (.cells #[.slice a0 l0 c0, .slice a1 l1 c1, .int .i64 p.state] 26))
  have HX := Lib.hid (PoolV.boxed w a0 l0 c0 a1 l1 c1 p 26)
  have HI := Lib.hid (hI.below HW.out)
  have HC := Lib.hid (fun W (hx : PoolV.In W a0 l0 a1 l1 p) => specIsPool8_any a0 l0 c0 a1 l1 c1 p W hx hc1)
  clear hI
  obtain ⟨x0, x1, x2⟩ := HX.out
  cases hp : isPool p
  · have HN := Lib.hid (show textOfQ p = (⟨#[]⟩, 1) by rw [textOfQ, if_neg (by rw [hp]; simp)])
    rw [hp] at HC
    clear hp
    generalize textOfQ p = R at HN ⊢
    go_enter Tryz.func7, Tryz.ntmps7
    go_wp2_with fail
    refine (HC.out _ HI.out).mono ?_; rintro e w1 ⟨rfl, hB⟩; have HB1 := Lib.hid (HW.out.trans (hB.mono HW.out.size)); clear hB x0 x1 x2
    go_wp2_with fail
    go_ret2
    exact ⟨ret_str2 (by rw [HN.out]) (by rw [HN.out]), HB1.out⟩
  · have HN := Lib.hid (show textOfQ p = (textQ p, 0) by rw [textOfQ, if_pos hp])
    have HT := Lib.hid (fun W (hx : PoolV.In W a0 l0 a1 l1 p) => specText8_any a0 l0 c0 a1 l1 c1 p W hx hp)
    rw [hp] at HC
    clear hp
    generalize textOfQ p = R at HN ⊢
    go_enter Tryz.func7, Tryz.ntmps7
    go_wp2_with fail
    refine (HC.out _ HI.out).mono ?_; rintro e w1 ⟨rfl, hB⟩; have HB1 := Lib.hid (HW.out.trans (hB.mono HW.out.size))
    have HI1 := Lib.hid (HI.out.below hB)
    clear x0 x1 x2
    obtain ⟨x0, x1, x2⟩ := HX.out.below hB
    clear hB
    go_wp2_with fail
    clear x0 x1 x2
    refine (HT.out w1 HI1.out).mono ?_; rintro e w2 ⟨rfl, hB⟩; have HB2 := Lib.hid (HB1.out.trans (hB.mono HB1.out.size)); clear hB
    go_wp2_with fail
    go_ret2
    exact ⟨ret_str2 (by rw [HN.out]) (by rw [HN.out]), HB2.out⟩

set_option maxRecDepth 100000 in
set_option maxHeartbeats 4000000 in
theorem implPoolText_any (a0 : Option Addr) (l0 c0 : Nat) (a1 : Option Addr) (l1 c1 : Nat) (p : PoolV) (w : World) (hI : PoolV.In w a0 l0 a1 l1 p) (hc1 : l1 ≤ c1) (hs1 : l1 ≤ 1000000000) (hT : Tabs Tryz.prog w) :
    Calls Tryz.prog 6 #[.agg #[.slice a0 l0 c0, .slice a1 l1 c1, .int .i64 p.state]] w (SaysT2 (textOfQ p).1 (textOfQ p).2 w) := by
  have HW := Lib.hid (boxed w (.cells #[.slice a0 l0 c0, .slice a1 l1 c1, .int .i64 p.state] 26))
  have HX := Lib.hid (PoolV.boxed w a0 l0 c0 a1 l1 c1 p 26)
  have HI := Lib.hid (hI.below HW.out)
  have HTB := Lib.hid (hT.below Tryz.gPow HW.out)
  have HC := Lib.hid (fun W (hx : PoolV.In W a0 l0 a1 l1 p) => implIsPool8_any a0 l0 c0 a1 l1 c1 p W hx hc1 hs1)
  have e0 := hI.1.1; have e1 := hI.2.1; have m0 := hI.1.2.1; have m1 := hI.2.2.1
  clear hI hT
  obtain ⟨x0, x1, x2⟩ := HX.out
  cases hp : isPool p
  · have HN := Lib.hid (show textOfQ p = (⟨#[]⟩, 1) by rw [textOfQ, if_neg (by rw [hp]; simp)])
    rw [hp] at HC
    clear hp e0 e1
    generalize textOfQ p = R at HN ⊢
    go_enter Tryz.func6, Tryz.ntmps6
    go_wp2_with fail
    refine (HC.out _ HI.out).mono ?_; rintro e w1 ⟨rfl, hB⟩; have HB1 := Lib.hid (HW.out.trans (hB.mono HW.out.size)); clear hB x0 x1 x2
    go_wp2_with fail
    go_ret2
    exact ⟨ret_str2 (by rw [HN.out]) (by rw [HN.out]), HB1.out⟩
  · have hv := pool_vals hp
    have hn := pool_len hp; have hd := pool_dlen hp
    have hst := pool_state hp
    have hs0 := listT_size8 hv.1 hn; have hs1 := listT_size8 hv.2 (by omega)
    have hs2 := decB_size (n := p.state) (by omega) (by omega)
    have HN := Lib.hid (show textOfQ p = (listT p.nums ++ slash ++ listT p.drawn ++ slash ++ decB p.state, 0) by rw [textOfQ, if_pos hp]; rfl)
    have HC0 := Lib.hid (fun W (hx : IntsIn W a0 l0 p.nums) (ht : Tabs Tryz.prog W) => show Calls Tryz.prog 15 #[.slice a0 l0 c0] W (SaysT2 (listT p.nums) 0 W) from by have e := implListText_any a0 l0 c0 p.nums W hx.1 m0 hx.2.2 ht; rw [pool_listText hv.1 hn] at e; exact e)
    have HC1 := Lib.hid (fun W (hx : IntsIn W a1 l1 p.drawn) (ht : Tabs Tryz.prog W) => show Calls Tryz.prog 15 #[.slice a1 l1 c1] W (SaysT2 (listT p.drawn) 0 W) from by have e := implListText_any a1 l1 c1 p.drawn W hx.1 m1 hx.2.2 ht; rw [pool_listText hv.2 (by omega)] at e; exact e)
    have HC2 := Lib.hid (fun W (ht : Tabs Tryz.prog W) => implNumberText_any p.state W (by omega) (by omega) ht)
    rw [hp] at HC
    generalize textOfQ p = R at HN ⊢
    obtain ⟨t0, ht0⟩ : ∃ t, listT p.nums = t := ⟨_, rfl⟩
    obtain ⟨t1, ht1⟩ : ∃ t, listT p.drawn = t := ⟨_, rfl⟩
    obtain ⟨t2, ht2⟩ : ∃ t, decB p.state = t := ⟨_, rfl⟩
    rw [ht0] at HN HC0 hs0; rw [ht1] at HN HC1 hs1; rw [ht2] at HN HC2 hs2
    clear ht0 ht1 ht2 hv e0 e1 hp hst
    go_enter Tryz.func6, Tryz.ntmps6
    go_wp2_with fail
    refine (HC.out _ HI.out).mono ?_; rintro e w1 ⟨rfl, hB⟩; have HB1 := Lib.hid (HW.out.trans (hB.mono HW.out.size))
    have HI1 := Lib.hid (HI.out.below hB); have HT1 := Lib.hid (HTB.out.below Tryz.gPow hB); have HX1 := Lib.hid (HX.out.below hB)
    clear x0 x1 x2 hB HC HW HX HI HTB
    obtain ⟨x0, x1, x2⟩ := HX1.out
    go_wp2_with fail
    clear x0 x1 x2
    refine (HC0.out w1 HI1.out.1 HT1.out).mono ?_; rintro e w2 ⟨rfl, hB⟩; have HB2 := Lib.hid (HB1.out.trans (hB.mono HB1.out.size))
    have HI2 := Lib.hid (HI1.out.below hB); have HT2 := Lib.hid (HT1.out.below Tryz.gPow hB); have HX2 := Lib.hid (HX1.out.below hB)
    clear hB HI1 HT1 HX1 HB1
    obtain ⟨x0, x1, x2⟩ := HX2.out
    go_wp2_with fail
    clear x0 x1 x2
    refine (HC1.out w2 HI2.out.2 HT2.out).mono ?_; rintro e w3 ⟨rfl, hB⟩; have HB3 := Lib.hid (HB2.out.trans (hB.mono HB2.out.size))
    have HT3 := Lib.hid (HT2.out.below Tryz.gPow hB); have HX3 := Lib.hid (HX2.out.below hB)
    clear hB HI2 HT2 HX2 HB2
    obtain ⟨x0, x1, x2⟩ := HX3.out
    go_wp2_with fail
    clear x0 x1 x2
    refine (HC2.out w3 HT3.out).mono ?_; rintro e w4 ⟨rfl, hB⟩; have HB4 := Lib.hid (HB3.out.trans (hB.mono HB3.out.size))
    clear hB HT3 HX3 HB3
    have HJ := Lib.hid (show Calls Tryz.prog 16 #[.slice (some ⟨w4.heap.size, 0, none⟩) 3 3, .string ⟨#[47]⟩] (w4.alloc (.cells #[.string t0, .string t1, .string t2] 9)) (fun e w2 => e = .returned (.string (t0 ++ slash ++ t1 ++ slash ++ t2)) ∧ Below (w4.alloc (.cells #[.string t0, .string t1, .string t2] 9)).heap.size (w4.alloc (.cells #[.string t0, .string t1, .string t2] 9)) w2) from by
      have hj := Tryz.strings_Join w4.heap.size 0 3 [t0, t1, t2] slash (w4.alloc (.cells #[.string t0, .string t1, .string t2] 9)) (fun j x hx => by rw [Nat.zero_add]; exact alloc_strs8 w4 9 [t0, t1, t2] j x hx) (by simp) (by show (3 : Nat) ≤ _; omega) (Nat.le_refl 3) (by
        have e1 : (Lib.join (([t0, t1, t2] : List ByteArray).map (·.data.toList)) slash.data.toList).length = (t0 ++ slash ++ t1 ++ slash ++ t2).size := by rw [← join_three]; exact List.size_toArray.symm
        have e2 : (t0 ++ slash ++ t1 ++ slash ++ t2).size = t0.size + 1 + t1.size + 1 + t2.size := by simp only [ByteArray.size_append]; rfl
        rw [e1, e2]; omega)
      rw [join_three] at hj
      exact hj)
    have HBA := Lib.hid (HB4.out.trans ((boxed w4 (.cells #[.string t0, .string t1, .string t2] 9)).mono HB4.out.size))
    go_wp2_with fail
    refine HJ.out.mono ?_; rintro e w5 ⟨rfl, hB⟩
    have HB5 := Lib.hid (HBA.out.trans (hB.mono HBA.out.size)); clear hB
    go_wp2_with fail
    go_ret2
    exact ⟨ret_str2 (by rw [HN.out]) (by rw [HN.out]), HB5.out⟩
end Go.Proofs.YtjnicmlomjppnaaGreatDoor
