/- Contracts: GroupsOf, KeeperOf and CountDuplicates, of the program and of its model. -/
import Derived.Test.YtdeiillfdjebdaaChecked
import Derived.Test.YtdeiillfdjebdaaBase
import Derived.Test.YtdeiillfdjebdaaPure41
import Derived.Test.YtdeiillfdjebdaaPure51
import Derived.Test.YtdeiillfdjebdaaPersSlice
import Derived.Test.YtdeiillfdjebdaaArePers
import Derived.Test.YtdeiillfdjebdaaCode5
import Derived.Test.YtdeiillfdjebdaaTabB
import Derived.Test.YtdeiillfdjebdaaSteps5
import Derived.Test.YtdeiillfdjebdaaGroups5
import Derived.Test.YtdeiillfdjebdaaPairs5
import Derived.Test.YtdeiillfdjebdaaUf5
import Derived.Test.YtdeiillfdjebdaaUf6
import Derived.Test.YtdeiillfdjebdaaUf7
import Derived.WalkKit
import Derived.WalkSpells
import Derived.WalkLawsBesides
import Derived.Lib.Hide
import Derived.Lib.QuietBelow
import Derived.IntWalk
import Derived.Deep.OwnRows
import Derived.Deep.QuietTactic
import Derived.BigQuiet
import Derived.Outline
namespace Go.Proofs.Ytdeiillfdjebdaa
open Go.RowKit Go.Sort Pure1 Pure2 Pure40 Pure41 Pure50 Pure51

/-- a value is returned; nothing that was there has turned -/
def SaysV (v : Value) (w : World) (e : Ending) (w' : World) : Prop := e = .returned v ∧ Below w.heap.size w w'
/-- the value of two numbers -/
def two (r : Int × Int) : Value := .tuple #[.int .i64 r.1, .int .i64 r.2]
theorem ret_of {u v : Value} (h : u = v) : Ending.returned u = .returned v := by rw [h]

/-- the answers -/
noncomputable def groupsR (ps : List Pers) (m : Int) : List (List Int) × Int := if code5 ps m [] = 0 then (groupsL (adj ps m) ps.length ps.length, 0) else ([], code5 ps m [])
noncomputable def keeperR (ps : List Pers) (m i : Int) : Int × Int := if code5 ps m [i] = 0 then ((keep (adj ps m) i.toNat : Int), 0) else (0, code5 ps m [i])
noncomputable def dupR (ps : List Pers) (m : Int) : Int × Int := if code5 ps m [] = 0 then ((ps.length : Int) - ((kpsTo (adj ps m) ps.length).length : Int), 0) else (0, code5 ps m [])
theorem code5_two (ps : List Pers) (m i : Int) : code5 ps m [i, i] = code5 ps m [i] := by unfold code5; simp [inL]
/-- the groups of some keepers -/
noncomputable def grpsOf (A : Nat → Nat → Bool) (n : Nat) (l : List Nat) : List (List Int) := l.map (fun i => toI (grpL A n i))
theorem grpsOf_snoc (A : Nat → Nat → Bool) (n : Nat) (l : List Nat) (k : Nat) : grpsOf A n (l ++ [k]) = grpsOf A n l ++ [toI (grpL A n k)] := by simp [grpsOf]

set_option maxRecDepth 100000 in
set_option maxHeartbeats 4000000 in
theorem implGroupsOf_any (a : Option Addr) (len cap : Nat) (ps : List Pers) (m : Int) (w : World) (hl : ps.length = len) (hm : len ≤ maxLen) (hI : PersAt w a ps) (hF : Fits ps) :
    Calls Try.prog 15 #[.slice a len cap, .int .i64 m] w (SaysTab (groupsR ps m).1 (groupsR ps m).2 w) := by
  have HE := Lib.hid (implJoiningError_any a len cap ps m none 0 0 [] w hl hm hI hF rfl (by unfold maxLen; omega) (.inl rfl))
  rcases code5_cases ps m [] with h | h | h
  · obtain ⟨hP, _, _⟩ := code5_zero h
    have hm12 : len ≤ 12 := by have := arePers_len hP; omega
    have HC := Lib.hid (fun W (hB : Below w.heap.size w W) => implGroups_any a len cap ps m W hl (hI.below hB) hP)
    have HA := Lib.hid (show ∀ i j, adj ps m i j = true → i < len ∧ j < len from fun i j h => by have := adj_lt h; omega)
    have HS := Lib.hid (adj_comm ps m)
    rw [show groupsR ps m = (groupsL (adj ps m) len len, 0) by unfold groupsR; rw [if_pos h, hl]]
    rw [h] at HE
    generalize adj ps m = A at HC HA HS ⊢
    clear hl hm hI hF h hP
    go_enter Try.func15, Try.ntmps15
    go_wp2_with fail
    refine HE.out.mono ?_; rintro e w1 ⟨rfl, hB⟩
    have HB1 := Lib.hid hB; clear hB HE
    go_wp2_with fail
    refine (HC.out w1 HB1.out).mono ?_; rintro e w2 ⟨b, par, rfl, hb, hp, hj, hB⟩
    have HB2 := Lib.hid (HB1.out.trans (hB.mono HB1.out.size)); have HP2 := Lib.hid hp; have HJ := Lib.hid hj; clear hB hp hj HC
    have HR := Lib.hid (fun i => HJ.out.done HS.out HA.out i)
    go_wp2_with fail
    refine (implKeepers_any A b len par w2 HP2.out hm12 HJ.out.less HR.out).mono ?_; rintro e w3 ⟨v3, rfl, hb3, hB⟩
    obtain ⟨a3, cap3, rfl, hcap3, ho3⟩ := hb3.own
    have HB3 := Lib.hid (HB2.out.trans (hB.mono HB2.out.size)); have HP3 := Lib.hid (HP2.out.of_block (hB.block b HP2.out.lt)); have HO3 := Lib.hid ho3
    have hsz3 := HB3.out.size
    have HT0 := Lib.hid (BuildT.nil w3.heap.size w3)
    have HLe := Lib.hid (sel_le (fun i => decide (keep A i = i)) len)
    clear hB hb3 ho3 HP2 hcap3
    rw [toI_length] at HO3 ⊢
    have HK := Lib.hid (show ∀ x ∈ sel (fun i => decide (keep A i = i)) len, x < len ∧ keep A x = x from fun x hx => by have := sel_mem.1 hx; exact ⟨this.1, of_decide_eq_true this.2⟩)
    have HGL := Lib.hid (show groupsL A len len = grpsOf A len (sel (fun i => decide (keep A i = i)) len) from rfl)
    generalize sel (fun i => decide (keep A i = i)) len = ks at HO3 HLe HK HGL ⊢
    have hks := HLe.out
    go_wp2_with fail
    go_loopw [8, 23] (fun v c wr => ∃ t : Nat, t ≤ ks.length ∧ c = .int .i64 t ∧ ∃ rows, BuildT w3.heap.size wr v rows (grpsOf A len (ks.take t)) ∧ Below w3.heap.size w3 wr) (fun _ c _ => ks.length - (intOf c).toNat)
    case atStart => exact ⟨0, Nat.zero_le _, rfl, _, HT0.out, Below.refl _ _⟩
    case round =>
      obtain ⟨t, ht, rfl, rows, hT, hB⟩ := hrel
      have HT := Lib.hid hT; have HB := Lib.hid hB; clear hT hB HT0
      by_cases hlt : t < ks.length
      · have hx : ks[t]? = some ks[t] := List.getElem?_eq_getElem hlt
        generalize ks[t] = z at hx
        obtain ⟨bk, e, hc⟩ := (HO3.out.below HB.out).at hlt
        subst e
        rw [show (toI ks).getD t 0 = (z : Int) by simp [List.getD, toI_at hx]] at hc
        obtain ⟨hz, hkz⟩ := HK.out z (List.mem_of_getElem? hx)
        have HX := Lib.hid hx; have HZ := Lib.hid hkz; clear hx hkz
        have HG := Lib.hid (implGroupOf_any A b len par z wr (HP3.out.of_block (HB.out.block b HP3.out.lt)) hm12 HJ.out.less HR.out)
        rw [grp_same HS.out HZ.out] at HG
        go_wp2_with fail
        refine HG.out.mono ?_; rintro e w5 ⟨v5, rfl, hb5, hB5⟩
        obtain ⟨a5, cap5, rfl, hcap5, ho5⟩ := hb5.own
        have HO5 := Lib.hid ho5
        have HT5 := Lib.hid (HT.out.below hB5)
        have HF5 := Lib.hid (HT.out.fresh (Nat.le_refl _))
        have hszr := HB.out.size
        have HB5 := Lib.hid (HB.out.trans (hB5.mono hszr))
        have hsz5 := HB5.out.size
        have hsm : (toI (grpL A len z)).length ≤ 12 := by rw [toI_length]; unfold grpL; have := sel_le (fun j => decide (0 ≤ dist A z j)) len; omega
        clear hb5 hB5 ho5 hc HG
        generalize hzs : toI (grpL A len z) = zs at HO5 hsm hcap5
        have HZS := Lib.hid hzs; clear hzs
        have HT6 := Lib.hid (HT5.out.alloc (.cells #[rowVal (a5, zs.length, cap5)] 37))
        have HB6 := Lib.hid (HB5.out.alloc hsz5 (.cells #[rowVal (a5, zs.length, cap5)] 37))
        have HO6 := Lib.hid (HO5.out.below (boxed w5 (.cells #[rowVal (a5, zs.length, cap5)] 37)))
        go_wp2_with (at_builtin; refine wpList_tab_append rfl _ _ rfl _ rows _ rfl HT6.out w5.heap.size (a5, zs.length, cap5) zs wr.heap.size rfl (cell_one _ _ _) HF5.out HO6.out hszr rfl ?c2 (by simp; omega) ?_)
        case c2 => simp [grpsOf]; omega
        intro v' w7 ht7 hg7
        have HT7 := Lib.hid (show BuildT w3.heap.size w7 v' _ (grpsOf A len (ks.take (t + 1))) by rw [take_get HX.out, grpsOf_snoc, HZS.out]; exact ht7)
        have HB7 := Lib.hid (HT6.out.grew HB6.out (Nat.le_refl _) (by simp; omega) hg7)
        clear ht7 hg7
        go_wp2_with fail
        go_roundw
        case rel => exact ⟨t + 1, by omega, by go_num, _, HT7.out, HB7.out⟩
        case measure => simp [intOf]; omega
      · have HT8 := Lib.hid (show BuildT w3.heap.size wr _ rows (grpsOf A len ks) by have := HT.out; rwa [List.take_of_length_le (by omega)] at this)
        obtain ⟨a8, cap8, rfl, ho8⟩ := HT8.out.own
        have HO8 := Lib.hid ho8; clear ho8
        go_wp2_with fail
        go_ret2
        rw [HGL.out]
        exact ⟨a8, cap8, rows, rfl, HT8.out.fit, ownTab_mono HO8.out hsz3, HB3.out.trans (HB.out.mono hsz3)⟩
  all_goals
    rw [show groupsR ps m = ([], code5 ps m []) by unfold groupsR; rw [if_neg (by omega)]]
    rw [h] at HE ⊢
    clear hl hm hI hF
    go_enter Try.func15, Try.ntmps15
    go_wp2_with fail
    refine HE.out.mono ?_; rintro e w1 ⟨rfl, hB⟩
    have HB := Lib.hid hB; clear hB
    go_wp2_with fail
    go_ret2
    exact ⟨none, 0, [], rfl, ⟨rfl, fun i r xs h => by simp at h⟩, .inl rfl, HB.out⟩

set_option maxRecDepth 100000 in
set_option maxHeartbeats 1000000 in
theorem specGroupsOf_any (a : Option Addr) (len cap : Nat) (ps : List Pers) (m : Int) (w : World) (hl : ps.length = len) (hm : len ≤ maxLen) (hI : PersAt w a ps) (hF : Fits ps) :
    Calls Try.prog 16 #[.slice a len cap, .int .i64 m] w (SaysTab (groupsR ps m).1 (groupsR ps m).2 w) := by
  have HE := Lib.hid (specL05Limit_any a len cap ps m w hl hm hI hF)
  rcases code5_cases ps m [] with h | h | h
  · obtain ⟨hP, _, _⟩ := code5_zero h
    have HC := Lib.hid (fun W (hB : Below w.heap.size w W) => specGroups_any a len cap ps m W hl (hI.below hB) hP)
    rw [show groupsR ps m = (groupsL (adj ps m) len len, 0) by unfold groupsR; rw [if_pos h, hl]]
    rw [h] at HE
    clear hl hm hI hF
    go_enter Try.func16, Try.ntmps16
    go_wp2_with fail
    refine HE.out.mono ?_; rintro e w1 ⟨rfl, hB⟩
    have HB := Lib.hid hB; clear hB
    go_wp2_with fail
    refine (HC.out w1 HB.out).mono ?_; rintro e w2 ⟨v, rows, rfl, ht, hB⟩
    obtain ⟨a2, cap2, rfl, ho⟩ := ht.own
    have HF := Lib.hid ht.fit; have HO := Lib.hid ho; have HB2 := Lib.hid hB; clear ht ho hB
    go_wp2_with fail
    go_ret2
    exact ⟨a2, cap2, rows, rfl, HF.out, ownTab_mono HO.out HB.out.size, HB.out.trans (HB2.out.mono HB.out.size)⟩
  all_goals
    rw [show groupsR ps m = ([], code5 ps m []) by unfold groupsR; rw [if_neg (by omega)]]
    rw [h] at HE ⊢
    clear hl hm hI hF
    go_enter Try.func16, Try.ntmps16
    go_wp2_with fail
    refine HE.out.mono ?_; rintro e w1 ⟨rfl, hB⟩
    have HB := Lib.hid hB; clear hB
    go_wp2_with fail
    go_ret2
    exact ⟨none, 0, [], rfl, ⟨rfl, fun i r xs h => by simp at h⟩, .inl rfl, HB.out⟩

set_option maxRecDepth 100000 in
set_option maxHeartbeats 2000000 in
theorem implKeeperOf5_any (a : Option Addr) (len cap : Nat) (ps : List Pers) (m x : Int) (w : World) (hl : ps.length = len) (hm : len ≤ maxLen) (hI : PersAt w a ps) (hF : Fits ps) :
    Calls Try.prog 33 #[.slice a len cap, .int .i64 m, .int .i64 x] w (SaysV (two (keeperR ps m x)) w) := by
  have HB0 := Lib.hid (boxed w (.cells #[.int .i64 x] 2))
  have HE := Lib.hid (implJoiningError_any a len cap ps m (some ⟨w.heap.size, 0, none⟩) 1 1 [x] (w.alloc (.cells #[.int .i64 x] 2)) hl hm (hI.below HB0.out) hF rfl (by unfold maxLen; omega) (ownI_reads (BuildI.one (B := w.heap.size) x (Nat.le_refl _) |>.own |> fun ⟨_, _, e, _, h⟩ => by cases e; exact h)))
  rcases code5_cases ps m [x] with h | h | h
  · obtain ⟨hP, _, hx⟩ := code5_zero h
    have hx := hx x (by simp)
    have hm12 : len ≤ 12 := by have := arePers_len hP; omega
    have HC := Lib.hid (fun W (hB : Below w.heap.size w W) => implGroups_any a len cap ps m W hl (hI.below hB) hP)
    have HA := Lib.hid (show ∀ i j, adj ps m i j = true → i < len ∧ j < len from fun i j h => by have := adj_lt h; omega)
    have HS := Lib.hid (adj_comm ps m)
    rw [show keeperR ps m x = ((keep (adj ps m) x.toNat : Int), 0) by unfold keeperR; rw [if_pos h]]
    rw [h] at HE
    rw [hl] at hx
    obtain ⟨z, rfl⟩ : ∃ z : Nat, x = z := ⟨x.toNat, by omega⟩
    rw [Int.toNat_natCast]
    generalize adj ps m = A at HC HA HS ⊢
    clear hl hm hI hF h hP
    go_enter Try.func33, Try.ntmps33
    go_wp2_with fail
    refine HE.out.mono ?_; rintro e w1 ⟨rfl, hB⟩
    have HB1 := Lib.hid (HB0.out.trans (hB.mono HB0.out.size)); clear hB HE
    go_wp2_with fail
    refine (HC.out w1 HB1.out).mono ?_; rintro e w2 ⟨b, par, rfl, hb, hp, hj, hB⟩
    have HB2 := Lib.hid (HB1.out.trans (hB.mono HB1.out.size)); have HP2 := Lib.hid hp; have HJ := Lib.hid hj; clear hB hp hj HC
    have HK := Lib.hid (implKeeperOf_any b len par z (keep A z) w2 HP2.out (by omega) HJ.out.less (HJ.out.done HS.out HA.out z) (by have := keep_le_self (A := A) z; omega))
    go_wp2_with fail
    refine HK.out.mono ?_; rintro e w' ⟨rfl, rfl⟩
    go_wp2_with fail
    go_ret2
    exact ⟨rfl, HB2.out⟩
  all_goals
    rw [show keeperR ps m x = (0, code5 ps m [x]) by unfold keeperR; rw [if_neg (by omega)]]
    rw [h] at HE ⊢
    clear hl hm hI hF
    go_enter Try.func33, Try.ntmps33
    go_wp2_with fail
    refine HE.out.mono ?_; rintro e w1 ⟨rfl, hB⟩
    have HB := Lib.hid (HB0.out.trans (hB.mono HB0.out.size)); clear hB
    go_wp2_with fail
    go_ret2
    exact ⟨rfl, HB.out⟩

set_option maxRecDepth 100000 in
set_option maxHeartbeats 2000000 in
theorem specKeeperOf5_any (a : Option Addr) (len cap : Nat) (ps : List Pers) (m x : Int) (w : World) (hl : ps.length = len) (hm : len ≤ maxLen) (hI : PersAt w a ps) (hF : Fits ps) :
    Calls Try.prog 34 #[.slice a len cap, .int .i64 m, .int .i64 x] w (SaysV (two (keeperR ps m x)) w) := by
  have HE := Lib.hid (specL05Code_any a len cap ps m x x w hl hm hI hF)
  rw [code5_two] at HE
  rcases code5_cases ps m [x] with h | h | h
  · obtain ⟨hP, _, hx⟩ := code5_zero h
    have hx := hx x (by simp)
    rw [hl] at hx
    rw [show keeperR ps m x = ((keep (adj ps m) x.toNat : Int), 0) by unfold keeperR; rw [if_pos h]]
    rw [h] at HE
    obtain ⟨z, rfl⟩ : ∃ z : Nat, x = z := ⟨x.toNat, by omega⟩
    rw [Int.toNat_natCast]
    have hz : z < len := by omega
    have hA : ∀ i j, adj ps m i j = true → i < len ∧ j < len := fun i j h => by have := adj_lt h; omega
    have HC := Lib.hid (fun W (hB : Below w.heap.size w W) => specGroup_any a len cap ps m z W hl (hI.below hB) hP hz)
    have hhead := grp_head hA (a := z) hz
    have hne : 0 < (toI (grpL (adj ps m) len z)).length := by rw [toI_length]; exact (List.getElem?_eq_some_iff.1 hhead).1
    have HV := Lib.hid (show (toI (grpL (adj ps m) len z)).getD 0 0 = (keep (adj ps m) z : Int) by simp [List.getD, toI_at hhead])
    generalize toI (grpL (adj ps m) len z) = zs at HC hne HV
    clear hl hm hI hF h hP hA hhead
    go_enter Try.func34, Try.ntmps34
    go_wp2_with fail
    refine HE.out.mono ?_; rintro e w1 ⟨rfl, hB⟩
    have HB1 := Lib.hid hB; clear hB HE
    go_wp2_with fail
    refine (HC.out w1 HB1.out).mono ?_; rintro e w2 ⟨v2, rfl, hb2, hB2⟩
    obtain ⟨a2, cap2, rfl, hcap, ho⟩ := hb2.own
    obtain ⟨b, e, hc⟩ := ho.at hne
    rw [HV.out] at hc
    subst e
    have HB2 := Lib.hid (HB1.out.trans (hB2.mono HB1.out.size))
    clear hb2 ho hB2
    go_wp2_with fail
    go_ret2
    exact ⟨rfl, HB2.out⟩
  all_goals
    rw [show keeperR ps m x = (0, code5 ps m [x]) by unfold keeperR; rw [if_neg (by omega)]]
    rw [h] at HE ⊢
    clear hl hm hI hF
    go_enter Try.func34, Try.ntmps34
    go_wp2_with fail
    refine HE.out.mono ?_; rintro e w1 ⟨rfl, hB⟩
    have HB := Lib.hid hB; clear hB
    go_wp2_with fail
    go_ret2
    exact ⟨rfl, HB.out⟩

theorem groupsL_length (A : Nat → Nat → Bool) (n k : Nat) : (groupsL A n k).length = (kpsTo A k).length := by rw [groupsL, List.length_map]

set_option maxRecDepth 100000 in
set_option maxHeartbeats 2000000 in
theorem implDup_any (a : Option Addr) (len cap : Nat) (ps : List Pers) (m : Int) (w : World) (hl : ps.length = len) (hm : len ≤ maxLen) (hI : PersAt w a ps) (hF : Fits ps) :
    Calls Try.prog 21 #[.slice a len cap, .int .i64 m] w (SaysV (two (dupR ps m)) w) := by
  have HE := Lib.hid (implJoiningError_any a len cap ps m none 0 0 [] w hl hm hI hF rfl (by unfold maxLen; omega) (.inl rfl))
  rcases code5_cases ps m [] with h | h | h
  · obtain ⟨hP, _, _⟩ := code5_zero h
    have hm12 : len ≤ 12 := by have := arePers_len hP; omega
    have HC := Lib.hid (fun W (hB : Below w.heap.size w W) => implGroups_any a len cap ps m W hl (hI.below hB) hP)
    have HA := Lib.hid (show ∀ i j, adj ps m i j = true → i < len ∧ j < len from fun i j h => by have := adj_lt h; omega)
    have HS := Lib.hid (adj_comm ps m)
    rw [show dupR ps m = ((len : Int) - ((kpsTo (adj ps m) len).length : Int), 0) by unfold dupR; rw [if_pos h, hl]]
    rw [h] at HE
    generalize adj ps m = A at HC HA HS ⊢
    clear hl hm hI hF h hP
    go_enter Try.func21, Try.ntmps21
    go_wp2_with fail
    refine HE.out.mono ?_; rintro e w1 ⟨rfl, hB⟩
    have HB1 := Lib.hid hB; clear hB HE
    go_wp2_with fail
    refine (HC.out w1 HB1.out).mono ?_; rintro e w2 ⟨b, par, rfl, hb, hp, hj, hB⟩
    have HB2 := Lib.hid (HB1.out.trans (hB.mono HB1.out.size)); have HP2 := Lib.hid hp; have HJ := Lib.hid hj; clear hB hp hj HC
    have HR := Lib.hid (fun i => HJ.out.done HS.out HA.out i)
    have hcnt := HP2.out.cnt
    have hks := sel_le (fun i => decide (keep A i = i)) len
    have HK := Lib.hid (implKeepers_any A b len par w2.drew (HP2.out.of_block rfl) hm12 HJ.out.less HR.out)
    have HGK := Lib.hid (show kpsTo A len = sel (fun i => decide (keep A i = i)) len from rfl)
    generalize sel (fun i => decide (keep A i = i)) len = ks at HK hks HGK ⊢
    have HWR := Lib.hid (show IntKind.i64.wrap ((len : Int) - (ks.length : Int)) = (len : Int) - (ks.length : Int) from IntWalk.i64_in _ (by omega))
    go_wp2_with fail
    go_region_held (fun W => W.cell? ⟨b, 24, none⟩ = some (.int .i64 (len : Int))) (first | exact hcnt | exact cell_later (w := w2.drew) hB3 hcnt) ((go_at_call 54; refine HK.out.mono ?_; rintro e w3 ⟨v3, rfl, hb3, hB3⟩; obtain ⟨a3, cap3, rfl, hcap3, ho3⟩ := hb3.own))
    all_goals
      rw [toI_length]
      have HB3 := Lib.hid ((Below.drew HB2.out).trans (hB3.mono HB2.out.size))
      clear hb3 ho3
      go_wp2_with fail
      go_ret2
      rw [HGK.out]
      refine ⟨?_, HB3.out⟩
      show Ending.returned (.tuple #[.int .i64 (IntKind.i64.wrap ((len : Int) - (ks.length : Int))), .int .i64 0]) = _
      rw [HWR.out]; rfl
  all_goals
    rw [show dupR ps m = (0, code5 ps m []) by unfold dupR; rw [if_neg (by omega)]]
    rw [h] at HE ⊢
    clear hl hm hI hF
    go_enter Try.func21, Try.ntmps21
    go_wp2_with fail
    refine HE.out.mono ?_; rintro e w1 ⟨rfl, hB⟩
    have HB := Lib.hid hB; clear hB
    go_wp2_with fail
    go_ret2
    exact ⟨rfl, HB.out⟩

set_option maxRecDepth 100000 in
set_option maxHeartbeats 2000000 in
theorem specDup_any (a : Option Addr) (len cap : Nat) (ps : List Pers) (m : Int) (w : World) (hl : ps.length = len) (hm : len ≤ maxLen) (hI : PersAt w a ps) (hF : Fits ps) :
    Calls Try.prog 22 #[.slice a len cap, .int .i64 m] w (SaysV (two (dupR ps m)) w) := by
  have HE := Lib.hid (specL05Limit_any a len cap ps m w hl hm hI hF)
  rcases code5_cases ps m [] with h | h | h
  · obtain ⟨hP, _, _⟩ := code5_zero h
    have hm12 : len ≤ 12 := by have := arePers_len hP; omega
    have HC := Lib.hid (fun W (hB : Below w.heap.size w W) => specGroups_any a len cap ps m W hl (hI.below hB) hP)
    have hle := groupsL_le (adj ps m) len len
    rw [show dupR ps m = ((len : Int) - ((groupsL (adj ps m) len len).length : Int), 0) by unfold dupR; rw [if_pos h, hl, groupsL_length]]
    rw [h] at HE
    generalize groupsL (adj ps m) len len = xss at HC hle ⊢
    clear hl hm hI hF
    go_enter Try.func22, Try.ntmps22
    go_wp2_with fail
    refine HE.out.mono ?_; rintro e w1 ⟨rfl, hB⟩
    have HB := Lib.hid hB; clear hB
    go_wp2_with fail
    refine (HC.out w1 HB.out).mono ?_; rintro e w2 ⟨v, rows, rfl, ht, hB⟩
    obtain ⟨a2, cap2, rfl, ho⟩ := ht.own
    have HB2 := Lib.hid (HB.out.trans (hB.mono HB.out.size)); clear ht ho hB
    go_wp2_with fail
    go_ret2
    exact ⟨rfl, HB2.out⟩
  all_goals
    rw [show dupR ps m = (0, code5 ps m []) by unfold dupR; rw [if_neg (by omega)]]
    rw [h] at HE ⊢
    clear hl hm hI hF
    go_enter Try.func22, Try.ntmps22
    go_wp2_with fail
    refine HE.out.mono ?_; rintro e w1 ⟨rfl, hB⟩
    have HB := Lib.hid hB; clear hB
    go_wp2_with fail
    go_ret2
    exact ⟨rfl, HB.out⟩

end Go.Proofs.Ytdeiillfdjebdaa
