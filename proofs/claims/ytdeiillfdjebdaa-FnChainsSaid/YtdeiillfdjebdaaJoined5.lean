/- Contracts: JoinedList, of the program and of its model; lists of persons that a call builds by adding. -/
import Derived.Test.YtdeiillfdjebdaaChecked
import Derived.Test.YtdeiillfdjebdaaBase
import Derived.Test.YtdeiillfdjebdaaPure40
import Derived.Test.YtdeiillfdjebdaaPure41
import Derived.Test.YtdeiillfdjebdaaPure51
import Derived.Test.YtdeiillfdjebdaaPersSlice
import Derived.Test.YtdeiillfdjebdaaArePers
import Derived.Test.YtdeiillfdjebdaaMarkP
import Derived.Test.YtdeiillfdjebdaaIns
import Derived.Test.YtdeiillfdjebdaaCode5
import Derived.Test.YtdeiillfdjebdaaTabB
import Derived.Test.YtdeiillfdjebdaaSteps5
import Derived.Test.YtdeiillfdjebdaaGroups5
import Derived.Test.YtdeiillfdjebdaaUf5
import Derived.Test.YtdeiillfdjebdaaUf6
import Derived.Test.YtdeiillfdjebdaaUf7
import Derived.Test.YtdeiillfdjebdaaGrp5
import Derived.WalkKit
import Derived.WalkSpells
import Derived.WalkLawsBesides
import Derived.Lib.Hide
import Derived.IntWalk
import Derived.Deep.OwnRows
import Derived.Deep.MidRow
import Derived.Outline
namespace Go.Proofs.Ytdeiillfdjebdaa
open Go.RowKit Go.Sort Pure1 Pure2 Pure40 Pure41 Pure50 Pure51

/-- a list of persons that is being built (from block B on) -/
def BuildP (B : Nat) (w : World) (v : Value) (ps : List Pers) : Prop := w.ownsRow B 51 5 v ps.length (flatP ps)
theorem BuildP.nil (B : Nat) (w : World) : BuildP B w (.slice none 0 0) [] := World.ownsRow_nil _ _ _ _
theorem BuildP.empty {B : Nat} {w : World} (hB : B ≤ w.heap.size) : BuildP B (w.alloc (.cells #[] 51)) (.slice (some ⟨w.heap.size, 0, none⟩) 0 0) [] := World.ownsRow_lit (size := 5) w #[] 0 hB (by decide) rfl
theorem BuildP.below {B : Nat} {w w' : World} {v : Value} {ps : List Pers} (h : BuildP B w v ps) (hb : Below w.heap.size w w') : BuildP B w' v ps := by
  refine ⟨h.1, ?_⟩
  rcases h.2 with hn | ⟨g, cap, cur, rfl, hB, hg, rest⟩
  · exact .inl hn
  · exact .inr ⟨g, cap, cur, rfl, hB, by rw [hb.block g (Array.getElem?_eq_some_iff.1 hg).1]; exact hg, rest⟩
theorem BuildP.alloc {B : Nat} {w : World} {v : Value} {ps : List Pers} (h : BuildP B w v ps) (o : Obj) : BuildP B (w.alloc o) v ps := h.below ((Below.refl _ _).alloc (Nat.le_refl _) o)
theorem BuildP.grew {B C : Nat} {w0 w w' : World} {v : Value} {ps : List Pers} (h : BuildP B w v ps) (hB : Below C w0 w) (hC : C ≤ B) (hs : C ≤ w.heap.size) (hg : w.grownBy w' v.ownBlock) : Below C w0 w' :=
  hB.grown hg hs (fun k hk => Nat.le_trans hC (h.lt k hk).1)
theorem BuildP.own {B : Nat} {w : World} {v : Value} {ps : List Pers} (h : BuildP B w v ps) : ∃ a cap, v = .slice a ps.length cap ∧ OwnQ B w a ps.length (persAt ps) := by
  obtain ⟨h1, ⟨rfl, h0⟩ | ⟨g, cap, cur, rfl, hg, hh, hn, hc, hs, hr⟩⟩ := id h
  · exact ⟨_, 0, by rw [h0], .inl h0⟩
  · have hcell : ∀ i p k, ps[i]? = some p → k < 5 → cur[i * 5 + k]? = p.cells[k]? := fun i p k hp hk => by
      have hi := (List.getElem?_eq_some_iff.1 hp).1
      rw [← flat_at hp k hk, ← hr, List.getElem?_take_of_lt (by omega), Array.getElem?_toList]
    refine ⟨_, cap, rfl, .inr ⟨g, fun i => (cur[i]?).getD undef, cap * 5, rfl, hg, by omega, ⟨cur, hh, hs, fun i hi => ?_⟩, fun i hi => ?_⟩⟩
    · show cur[i]? = some ((cur[i]?).getD undef)
      have hx : cur[i]? = some cur[i] := Array.getElem?_eq_getElem (by omega)
      rw [hx]; rfl
    · have hp : ps[i]? = some ps[i] := List.getElem?_eq_getElem hi
      rw [persAt_eq hp]
      have q := fun k hk => hcell i _ k hp hk
      refine ⟨?_, ?_, ?_, ?_, ?_⟩
      · show (cur[i * 5]?).getD undef = _; rw [show i * 5 = i * 5 + 0 from rfl, q 0 (by omega)]; rfl
      · show (cur[i * 5 + 1]?).getD undef = _; rw [q 1 (by omega)]; rfl
      · show (cur[i * 5 + 2]?).getD undef = _; rw [q 2 (by omega)]; rfl
      · show (cur[i * 5 + 3]?).getD undef = _; rw [q 3 (by omega)]; rfl
      · show (cur[i * 5 + 4]?).getD undef = _; rw [q 4 (by omega)]; rfl

section
variable {ops : Array Oper} {rest : List Oper} {o : Oper} {a : Act} {Q : Exit → Act → World → Prop} {w : World} {B : Nat}
/-- one person more -/
theorem wpList_pers_append (hgd : o.guard = none) (s x : Operand) (ho : o.op = .call { callee := .builtin .append, args := #[s, x], argTypes := #[24, 24] })
    (v : Value) (ps : List Pers) (hs : a.eval s = v) (h : BuildP B w v ps) (b : Nat) (p : Pers) (hx : a.eval x = .slice (some ⟨b, 0, none⟩) 1 1) (hc : AtB w b p)
    (hl : ps.length ≤ 1000000) (hB : B ≤ w.heap.size)
    (hk : ∀ v' w', BuildP B w' v' (ps ++ [p]) → w.grownBy w' v.ownBlock → wpList Try.prog ops Q rest (a.put o.dst v') w') : wpList Try.prog ops Q (o :: rest) a w := by
  obtain ⟨i, z, hi, hz, h5, h56, hzs⟩ := Try.info_pers'
  refine wpList_append_own (P := Try.prog) w hgd s x 24 ho B 51 i z 5 56 Try.underlying24 hi hz h5 h56 hzs (by omega) v ps.length (flatP ps) hs h ⟨b, 0, none⟩ 1 1 (flatP [p]) hx rfl ?_ flat_one (by unfold maxLen; omega) (by omega) hB ?_
  · intro j u hu
    have hj := (List.getElem?_eq_some_iff.1 hu).1
    have hj : j < 5 := hj
    obtain ⟨c0, c1, c2, c3, c4⟩ := hc
    rw [Addr.add_mid, Nat.zero_add]
    match j, hj with
    | 0, _ => rw [c0]; exact hu
    | 1, _ => rw [c1]; exact hu
    | 2, _ => rw [c2]; exact hu
    | 3, _ => rw [c3]; exact hu
    | 4, _ => rw [c4]; exact hu
  · intro v' w' h1 h2 _
    refine hk v' w' ?_ h2
    unfold BuildP
    rw [List.length_append, flat_append]; exact h1
end

/-- a list of persons beside a code -/
def SaysNewP (ps : List Pers) (n : Int) (w : World) (e : Ending) (w' : World) : Prop :=
  ∃ a cap, e = .returned (.tuple #[.slice a ps.length cap, .int .i64 n]) ∧ OwnQ w.heap.size w' a ps.length (persAt ps) ∧ Below w.heap.size w w'
/-- the persons at some places -/
def pickP (ps : List Pers) (l : List Nat) : List Pers := l.filterMap (fun k => ps[k]?)
theorem pickP_snoc {ps : List Pers} {l : List Nat} {k : Nat} {p : Pers} (h : ps[k]? = some p) : pickP ps (l ++ [k]) = pickP ps l ++ [p] := by simp [pickP, h]
theorem pickP_le (ps : List Pers) (l : List Nat) : (pickP ps l).length ≤ l.length := List.length_filterMap_le _ _
/-- the answer of JoinedList -/
noncomputable def joinedR (ps : List Pers) (m : Int) : List Pers × Int := if code5 ps m [] = 0 then (pickP ps (kpsTo (adj ps m) ps.length), 0) else ([], code5 ps m [])
theorem joinedR_small (ps : List Pers) (m : Int) : (joinedR ps m).1.length ≤ 100 := by
  unfold joinedR
  split
  · rename_i h
    have hp := arePers_len (code5_zero h).1
    have h1 := pickP_le ps (kpsTo (adj ps m) ps.length)
    have h2 := sel_le (fun i => decide (keep (adj ps m) i = i)) ps.length
    show (pickP _ _).length ≤ 100
    unfold kpsTo at h1 ⊢; omega
  · simp
theorem ownQ_base {B C : Nat} {w : World} {a : Option Addr} {len : Nat} {g : Nat → Pers} (h : OwnQ C w a len g) (hBC : B ≤ C) : OwnQ B w a len g := by
  rcases h with h | ⟨b, f, N, e, hB, h2⟩
  · exact .inl h
  · exact .inr ⟨b, f, N, e, by omega, h2⟩

/-- a table is kept while a list of persons grows: their blocks are of other types -/
theorem ownTab_keptP {B C : Nat} {w w' : World} {a : Option Addr} {rows : List RowOf} {g : Nat → Nat → Int} {v : Value} {ps : List Pers} (h : OwnTab C w a rows g) (hb : BuildP B w v ps) (hg : w.grownBy w' v.ownBlock) : OwnTab C w' a rows g := by
  have other : ∀ (b T N : Nat) (f : Nat → Value), w.rowIs b T N f → T ≠ 51 → some b ≠ v.ownBlock := by
    intro b T N f hr hT e
    obtain ⟨c, h1, _⟩ := hr
    rcases hb.2 with ⟨hv, _⟩ | ⟨k, cap, cur, hv, _, hh, _⟩
    · rw [hv] at e; cases e
    · rw [hv] at e
      simp only [Value.ownBlock, Option.some.injEq] at e
      subst e
      rw [hh] at h1
      simp only [Option.some.injEq, Obj.cells.injEq] at h1
      exact hT h1.2.1.symm
  rcases h with h | ⟨b1, f, N, e, hB, hN, hr, hv, ho, ha⟩
  · exact .inl h
  · refine .inr ⟨b1, f, N, e, hB, hN, hr.of_block (hg.block b1 hr.lt (other _ _ _ _ hr (by decide))), hv, fun i r hi => ?_, ha⟩
    rcases ho i r hi with h1 | ⟨b2, f2, N2, e2, hb2, hN2, hr2, hf2⟩
    · exact .inl h1
    · exact .inr ⟨b2, f2, N2, e2, hb2, hN2, hr2.of_block (hg.block b2 hr2.lt (other _ _ _ _ hr2 (by decide))), hf2⟩

set_option maxRecDepth 100000 in
set_option maxHeartbeats 4000000 in
theorem implJoined_any (a : Option Addr) (len cap : Nat) (ps : List Pers) (m : Int) (w : World) (hl : ps.length = len) (hm : len ≤ maxLen) (hI : PersAt w a ps) (hF : Fits ps) :
    Calls Try.prog 19 #[.slice a len cap, .int .i64 m] w (SaysNewP (joinedR ps m).1 (joinedR ps m).2 w) := by
  have HE := Lib.hid (implJoiningError_any a len cap ps m none 0 0 [] w hl hm hI hF rfl (by unfold maxLen; omega) (.inl rfl))
  rcases code5_cases ps m [] with h | h | h
  · obtain ⟨hP, _, _⟩ := code5_zero h
    have hm12 : len ≤ 12 := by have := arePers_len hP; omega
    have HC := Lib.hid (fun W (hB : Below w.heap.size w W) => implGroups_any a len cap ps m W hl (hI.below hB) hP)
    have HA := Lib.hid (show ∀ i j, adj ps m i j = true → i < len ∧ j < len from fun i j h => by have := adj_lt h; omega)
    have HS := Lib.hid (adj_comm ps m)
    have HL := Lib.hid hl; have HI := Lib.hid hI
    have HN := Lib.hid (show joinedR ps m = (pickP ps (sel (fun i => decide (keep (adj ps m) i = i)) len), 0) by unfold joinedR kpsTo; rw [if_pos h, hl])
    rw [h] at HE
    generalize adj ps m = A at HC HA HS HN
    clear hl hm hI hF h hP
    go_enter Try.func19, Try.ntmps19
    go_wp2_with fail
    refine HE.out.mono ?_; rintro e w1 ⟨rfl, hB⟩
    have HB1 := Lib.hid hB; clear hB HE
    go_wp2_with fail
    refine (HC.out w1 HB1.out).mono ?_; rintro e w2 ⟨b, par, rfl, hb, hp, hj, hB⟩
    have HB2 := Lib.hid (HB1.out.trans (hB.mono HB1.out.size)); have HP2 := Lib.hid hp; have HJ := Lib.hid hj; clear hB hp hj HC
    have HR := Lib.hid (fun i => HJ.out.done HS.out HA.out i)
    go_wp2_with fail
    refine (implKeepers_any A b len par w2 HP2.out hm12 HJ.out.less HR.out).mono ?_; rintro e w3 ⟨v3, rfl, hb3, hB⟩
    obtain ⟨a3, cap3, rfl, hcap3, ho3⟩ := hb3.own
    have HB3 := Lib.hid (HB2.out.trans (hB.mono HB2.out.size)); have HO3 := Lib.hid ho3
    have hsz3 := HB3.out.size
    have HT0 := Lib.hid (BuildP.nil w3.heap.size w3)
    have HLe := Lib.hid (sel_le (fun i => decide (keep A i = i)) len)
    have HK := Lib.hid (show ∀ x ∈ sel (fun i => decide (keep A i = i)) len, x < len from fun x hx => (sel_mem.1 hx).1)
    clear hB hb3 ho3 HP2 hcap3
    rw [toI_length] at HO3 ⊢
    generalize sel (fun i => decide (keep A i = i)) len = ks at HO3 HLe HK HN ⊢
    have hks := HLe.out
    go_wp2_with fail
    go_loopw [7, 21] (fun v c wr => ∃ t : Nat, t ≤ ks.length ∧ c = .int .i64 t ∧ BuildP w3.heap.size wr v (pickP ps (ks.take t)) ∧ Below w3.heap.size w3 wr) (fun _ c _ => ks.length - (intOf c).toNat)
    case atStart => exact ⟨0, Nat.zero_le _, rfl, HT0.out, Below.refl _ _⟩
    case round =>
      obtain ⟨t, ht, rfl, hT, hB⟩ := hrel
      have HT := Lib.hid hT; have HB := Lib.hid hB; clear hT hB HT0
      by_cases hlt : t < ks.length
      · have hx : ks[t]? = some ks[t] := List.getElem?_eq_getElem hlt
        generalize ks[t] = z at hx
        obtain ⟨bk, e, hc⟩ := (HO3.out.below HB.out).at hlt
        subst e
        rw [show (toI ks).getD t 0 = (z : Int) by simp [List.getD, toI_at hx]] at hc
        have hz := HK.out z (List.mem_of_getElem? hx)
        obtain ⟨b1, off, p, rfl, hcp, hp⟩ := (HI.out.below (HB3.out.trans (HB.out.mono hsz3))).at HL.out hz
        obtain ⟨c0, c1, c2, c3, c4⟩ := hcp
        have HX := Lib.hid (show pickP ps (ks.take (t + 1)) = pickP ps (ks.take t) ++ [p] by rw [take_get hx, pickP_snoc hp])
        have hszr := HB.out.size
        have HT6 := Lib.hid (HT.out.alloc (.cells #[.int .i64 p.num, .string p.fst, .string p.lst, .int .i64 p.born, .int .i64 p.zone] 51))
        have HB6 := Lib.hid (HB.out.alloc hszr (.cells #[.int .i64 p.num, .string p.fst, .string p.lst, .int .i64 p.born, .int .i64 p.zone] 51))
        have HP6 := Lib.hid (show AtB _ _ p from atB_box wr p.num p.fst p.lst p.born p.zone 51)
        have HPL := Lib.hid (show (pickP ps (ks.take t)).length ≤ 100 by have := pickP_le ps (ks.take t); rw [List.length_take] at this; omega)
        clear hx hp
        go_wp2_with (at_builtin; refine wpList_pers_append rfl _ _ rfl _ _ rfl HT6.out wr.heap.size p rfl HP6.out (by have := HPL.out; omega) (by simp; omega) ?_)
        intro v' w7 ht7 hg7
        have HT7 := Lib.hid (show BuildP w3.heap.size w7 v' (pickP ps (ks.take (t + 1))) by rw [HX.out]; exact ht7)
        have HB7 := Lib.hid (HT6.out.grew HB6.out (Nat.le_refl _) (by simp; omega) hg7)
        clear ht7 hg7 hc c0 c1 c2 c3 c4
        go_wp2_with fail
        go_roundw
        case rel => exact ⟨t + 1, by omega, by go_num, HT7.out, HB7.out⟩
        case measure => simp [intOf]; omega
      · have HT8 := Lib.hid (show BuildP w3.heap.size wr _ (pickP ps ks) by have := HT.out; rwa [List.take_of_length_le (by omega)] at this)
        obtain ⟨a8, cap8, rfl, ho8⟩ := HT8.out.own
        have HO8 := Lib.hid ho8; clear ho8
        go_wp2_with fail
        go_ret2
        rw [HN.out]
        exact ⟨a8, cap8, rfl, ownQ_base HO8.out hsz3, HB3.out.trans (HB.out.mono hsz3)⟩
  all_goals
    rw [show joinedR ps m = ([], code5 ps m []) by unfold joinedR; rw [if_neg (by omega)]]
    rw [h] at HE ⊢
    clear hl hm hI hF
    go_enter Try.func19, Try.ntmps19
    go_wp2_with fail
    refine HE.out.mono ?_; rintro e w1 ⟨rfl, hB⟩
    have HB := Lib.hid hB; clear hB
    go_wp2_with fail
    go_ret2
    exact ⟨none, 0, rfl, .inl rfl, HB.out⟩

set_option maxRecDepth 100000 in
set_option maxHeartbeats 4000000 in
theorem specJoined_any (a : Option Addr) (len cap : Nat) (ps : List Pers) (m : Int) (w : World) (hl : ps.length = len) (hm : len ≤ maxLen) (hI : PersAt w a ps) (hF : Fits ps) :
    Calls Try.prog 20 #[.slice a len cap, .int .i64 m] w (SaysNewP (joinedR ps m).1 (joinedR ps m).2 w) := by
  have HE := Lib.hid (specL05Limit_any a len cap ps m w hl hm hI hF)
  rcases code5_cases ps m [] with h | h | h
  · obtain ⟨hP, _, _⟩ := code5_zero h
    have hm12 : len ≤ 12 := by have := arePers_len hP; omega
    have HC := Lib.hid (fun W (hB : Below w.heap.size w W) => specGroups_any a len cap ps m W hl (hI.below hB) hP)
    have HA := Lib.hid (show ∀ i j, adj ps m i j = true → i < len ∧ j < len from fun i j h => by have := adj_lt h; omega)
    have HL := Lib.hid hl; have HI := Lib.hid hI
    have HN := Lib.hid (show joinedR ps m = (pickP ps (sel (fun i => decide (keep (adj ps m) i = i)) len), 0) by unfold joinedR kpsTo; rw [if_pos h, hl])
    have HGL := Lib.hid (show groupsL (adj ps m) len len = grpsOf (adj ps m) len (sel (fun i => decide (keep (adj ps m) i = i)) len) from rfl)
    rw [h] at HE
    generalize adj ps m = A at HC HA HN HGL
    clear hl hm hI hF h hP
    go_enter Try.func20, Try.ntmps20
    go_wp2_with fail
    refine HE.out.mono ?_; rintro e w1 ⟨rfl, hB⟩
    have hsz1 := hB.size
    have HT0 := Lib.hid (BuildP.empty (B := w1.heap.size) (w := w1) (Nat.le_refl _))
    have HX0 := Lib.hid (boxed w1 (.cells #[] 51))
    have HB1 := Lib.hid hB; clear hB HE
    go_wp2_with fail
    refine (HC.out _ (HB1.out.trans (HX0.out.mono hsz1))).mono ?_; rintro e w2 ⟨v2, rows, rfl, ht2, hB2⟩
    obtain ⟨a2, cap2, rfl, ho2⟩ := ht2.own
    have HF2 := Lib.hid ht2.fit
    have HB2 := Lib.hid (HX0.out.trans (hB2.mono HX0.out.size))
    have HT2 := Lib.hid (HT0.out.below hB2)
    have HO2 := Lib.hid ho2
    generalize (w1.alloc (.cells #[] 51)).heap.size = C at HO2
    have HLe := Lib.hid (sel_le (fun i => decide (keep A i = i)) len)
    have HK := Lib.hid (show ∀ x ∈ sel (fun i => decide (keep A i = i)) len, x < len ∧ keep A x = x from fun x hx => by have := sel_mem.1 hx; exact ⟨this.1, of_decide_eq_true this.2⟩)
    clear ht2 ho2 hB2 HC HX0 HT0
    rw [HGL.out] at HF2 HO2 ⊢
    generalize sel (fun i => decide (keep A i = i)) len = ks at HF2 HO2 HLe HK HN HGL ⊢
    have hks := HLe.out
    have hgl : (grpsOf A len ks).length = ks.length := by simp [grpsOf]
    rw [hgl]
    go_wp2_with fail
    go_loopw [7, 9] (fun v c wr => ∃ t : Nat, t ≤ ks.length ∧ c = .int .i64 t ∧ BuildP w1.heap.size wr v (pickP ps (ks.take t)) ∧ Below w1.heap.size w1 wr ∧ OwnTab C wr a2 rows (tabG (grpsOf A len ks))) (fun _ c _ => ks.length - (intOf c).toNat)
    case atStart => exact ⟨0, Nat.zero_le _, rfl, HT2.out, HB2.out, HO2.out⟩
    case round =>
      obtain ⟨t, ht, rfl, hT, hB, hO⟩ := hrel
      have HT := Lib.hid hT; have HB := Lib.hid hB; have HO := Lib.hid hO; clear hT hB hO HT2 HO2
      by_cases hlt : t < ks.length
      · have hx : ks[t]? = some ks[t] := List.getElem?_eq_getElem hlt
        generalize ks[t] = z at hx
        obtain ⟨hz, hkz⟩ := HK.out z (List.mem_of_getElem? hx)
        have hgx : (grpsOf A len ks)[t]? = some (toI (grpL A len z)) := by simp [grpsOf, hx]
        have hrow : rows[t]? = some (rows[t]'(by rw [HF2.out.1, hgl]; exact hlt)) := List.getElem?_eq_getElem _
        have hlen := HF2.out.2 t _ _ hrow hgx
        obtain ⟨tb, e, hc, hown⟩ := HO.out.at hrow
        subst e
        rw [tabG_at hgx, hlen] at hown
        rw [hlen] at hc
        have hhead := grp_head HA.out (a := z) hz
        have hne : 0 < (toI (grpL A len z)).length := by rw [toI_length]; exact (List.getElem?_eq_some_iff.1 hhead).1
        have hgm := sel_le (fun j => decide (0 ≤ dist A z j)) len
        have hg12 : (toI (grpL A len z)).length ≤ 12 := by rw [toI_length]; unfold grpL; omega
        have HV0 := Lib.hid (show (toI (grpL A len z)).getD 0 0 = (z : Int) by rw [hkz] at hhead; simp [List.getD, toI_at hhead])
        generalize rows[t]'(by rw [HF2.out.1, hgl]; exact hlt) = r at hc hown
        obtain ⟨ra, rl, rc⟩ := r
        simp only at hc hown
        obtain ⟨pb, e, hc0⟩ := hown.at hne
        subst e
        rw [HV0.out] at hc0
        generalize toI (grpL A len z) = zs at hc hown hne hg12 HV0
        obtain ⟨b1, off, p, rfl, hcp, hp⟩ := (HI.out.below (HB1.out.trans (HB.out.mono hsz1))).at HL.out hz
        obtain ⟨c0, c1, c2, c3, c4⟩ := hcp
        have HX := Lib.hid (show pickP ps (ks.take (t + 1)) = pickP ps (ks.take t) ++ [p] by rw [take_get hx, pickP_snoc hp])
        have hszr := HB.out.size
        have HT6 := Lib.hid (HT.out.alloc (.cells #[.int .i64 p.num, .string p.fst, .string p.lst, .int .i64 p.born, .int .i64 p.zone] 51))
        have HB6 := Lib.hid (HB.out.alloc hszr (.cells #[.int .i64 p.num, .string p.fst, .string p.lst, .int .i64 p.born, .int .i64 p.zone] 51))
        have HO6 := Lib.hid (HO.out.below (boxed wr (.cells #[.int .i64 p.num, .string p.fst, .string p.lst, .int .i64 p.born, .int .i64 p.zone] 51)))
        have HP6 := Lib.hid (show AtB _ _ p from atB_box wr p.num p.fst p.lst p.born p.zone 51)
        have HPL := Lib.hid (show (pickP ps (ks.take t)).length ≤ 100 by have := pickP_le ps (ks.take t); rw [List.length_take] at this; omega)
        clear hx hp hgx hrow hlen hown hhead
        go_wp2_with (at_builtin; refine wpList_pers_append rfl _ _ rfl _ _ rfl HT6.out wr.heap.size p rfl HP6.out (by have := HPL.out; omega) (by simp; omega) ?_)
        intro v' w7 ht7 hg7
        have HT7 := Lib.hid (show BuildP w1.heap.size w7 v' (pickP ps (ks.take (t + 1))) by rw [HX.out]; exact ht7)
        have HB7 := Lib.hid (HT6.out.grew HB6.out (Nat.le_refl _) (by simp; omega) hg7)
        have HO7 := Lib.hid (ownTab_keptP HO6.out HT6.out hg7)
        clear ht7 hg7 hc hc0 c0 c1 c2 c3 c4
        go_wp2_with fail
        go_roundw
        case rel => exact ⟨t + 1, by omega, by go_num, HT7.out, HB7.out, HO7.out⟩
        case measure => simp [intOf]; omega
      · have HT8 := Lib.hid (show BuildP w1.heap.size wr _ (pickP ps ks) by have := HT.out; rwa [List.take_of_length_le (by omega)] at this)
        obtain ⟨a8, cap8, rfl, ho8⟩ := HT8.out.own
        have HO8 := Lib.hid ho8; clear ho8
        go_wp2_with fail
        go_ret2
        rw [HN.out]
        exact ⟨a8, cap8, rfl, ownQ_base HO8.out hsz1, HB1.out.trans (HB.out.mono hsz1)⟩
  all_goals
    rw [show joinedR ps m = ([], code5 ps m []) by unfold joinedR; rw [if_neg (by omega)]]
    rw [h] at HE ⊢
    clear hl hm hI hF
    go_enter Try.func20, Try.ntmps20
    go_wp2_with fail
    refine HE.out.mono ?_; rintro e w1 ⟨rfl, hB⟩
    have HB := Lib.hid hB; clear hB
    go_wp2_with fail
    go_ret2
    exact ⟨none, 0, rfl, .inl rfl, HB.out⟩

end Go.Proofs.Ytdeiillfdjebdaa
