/- Proved: for every code, laws.FnPersonTexts returns true and leaves its argument as it was: a person is recovered from the text (the card's own condition: the listed variables of Go's library hold what the program's text lays). -/
import Derived.Test.YtgjhpeofcbdaaaaDoorRows
import Derived.Test.YtgjhpeofcbdaaaaDoorCards
import Derived.Test.YtgjhpeofcbdaaaaDoorTie
import Derived.WalkKit
import Derived.ProofKit
import Derived.OpenShut
import Derived.ShutString
import Derived.ChangeOld
import Derived.Below
import Derived.SliceStrings
import Derived.Lib.Hide
import Derived.Deep.DeepHandedRow
import Derived.Deep.DeepWitnessRowRef
import Derived.SevenTiedAt
import Derived.Test.YtgjhpeofcbdaaaaDoorPure40
import Derived.Test.YtgjhpeofcbdaaaaDoorPersLaw
import Derived.Test.YtgjhpeofcbdaaaaDoorPure43
import Derived.Test.YtgjhpeofcbdaaaaDoorIsPers
import Derived.Test.YtgjhpeofcbdaaaaDoorBig
import Derived.Test.YtgjhpeofcbdaaaaDoorDrawT4
import Derived.Test.YtgjhpeofcbdaaaaDoorText4
import Derived.Test.YtgjhpeofcbdaaaaDoorRead4
import Derived.Test.YtgjhpeofcbdaaaaDoorRead5
import Derived.Test.YtgjhpeofcbdaaaaDoorDoorW
import Derived.Test.YtgjhpeofcbdaaaaDoorDoorE4
namespace Go.Proofs.YtgjhpeofcbdaaaaDoor.fnPersonTexts
open Go.ChangeShapes Go.WideShapes Go.ChangeAt Go.RowKit
open Go.ChangeMaps (open_string shut_string)
open Pure2 Pure4 Pure6 Pure40 Pure42
set_option linter.unusedVariables false

theorem own : ownKnob Tryd.prog.godebug = none := by kernel_rfl
theorem laidOut : laidOutB Tryd.prog = true := by kernel_rfl

/-- What the walk is told of a slice of integers that came in: it is nil, or it leads to a row of cap cells, the numbers zs. -/
def IsRow (k : IntKind) (w : World) (a : Option Addr) (len cap : Nat) (zs : List Int) : Prop :=
  (a = none ∧ len = 0 ∧ cap = 0 ∧ zs = []) ∨
  ∃ x, a = some x ∧ len ≤ cap ∧ cap ≤ maxLen ∧ zs.length = cap ∧ (∀ i, i < zs.length → w.cell? (x.add i) = some (.int k (zs.getD i 0))) ∧ ∀ n ∈ zs, (Lit.int k n).wf = true

set_option maxRecDepth 100000 in
set_option maxHeartbeats 4000000 in
theorem walk (w : World) (hL : laidMetH Tryd.prog Rows.fnPersonTextsRow.laid w) (hsh : w.ShapedOpen Tryd.prog) (a0 : Option Addr) (len0 cap0 : Nat) (z0 : List Int) (w0 : IsRow .u8 w a0 len0 cap0 z0) :
    Calls Tryd.prog 3 #[.slice a0 len0 cap0] w fun e w' => e = .returned (.bool true) ∧ Below w.heap.size w w' := by
  have hM := maxAt_of hsh
  have HT := Lib.hid (tabs_of hL (by simp [Rows.fnPersonTextsRow]))
  have HE := Lib.hid (errs_of hL (by simp [Rows.fnPersonTextsRow]) (by simp [Rows.fnPersonTextsRow]))
  clear hL hsh
  obtain ⟨hl, hY⟩ := bytes_of_row w0
  generalize z0.take len0 = bs at hl hY
  have HL := Lib.hid hl; have HY := Lib.hid hY; clear hl hY w0
  have HBig := Lib.hid (lawsBig_any a0 len0 cap0 w)
  by_cases hb : 4096 < len0
  · rw [decide_eq_true hb] at HBig
    go_enter Tryd.func3, Tryd.ntmps3
    go_wp2_with fail
    refine HBig.out.mono ?_; rintro e w' ⟨rfl, rfl⟩
    go_wp2_with fail
    go_ret
    exact ⟨rfl, Below.refl _ _⟩
  · rw [decide_eq_false hb] at HBig
    have hm : len0 ≤ 4096 := by omega
    have HM := Lib.hid hM
    clear hb hM
    have hgd : Tryd.prog.eqGuardType Tryd.prog.depth 25 = false := by kernel_rfl
    go_enter Tryd.func3, Tryd.ntmps3
    go_wp2_with fail
    refine HBig.out.mono ?_; rintro e w' ⟨rfl, rfl⟩
    go_wp2_with fail
    refine (specDrawPersonText_any a0 len0 cap0 bs w HL.out hm HY.out).mono ?_; rintro e w1 ⟨p, rfl, hp, hB1⟩
    have hfit : p.fst.size ≤ maxLen ∧ p.lst.size ≤ maxLen := by obtain ⟨h1, h2, _⟩ := hp; unfold maxLen; omega
    obtain ⟨t, c, ok, hx, hIs, hX⟩ := text_there p hp
    clear hp
    obtain ⟨n, f, l, b, z⟩ := p
    obtain ⟨hf, hl⟩ : f.size ≤ maxLen ∧ l.size ≤ maxLen := hfit
    have HB1 := Lib.hid (hB1.alloc hB1.size (.cells #[.int .i64 n, .string f, .string l, .int .i64 b, .int .i64 z] 25))
    have HA1 := Lib.hid (atB_box w1 n f l b z 25)
    clear hB1
    have HX := Lib.hid hX
    have HIm := Lib.hid (fun W (h : Tabs Tryd.prog W) => show Calls Tryd.prog 8 #[.agg #[.int .i64 n, .string f, .string l, .int .i64 b, .int .i64 z]] W (SaysT2 t c W) by have := implPersonText_any n f l b z W hf hl h; rwa [hx] at this)
    have HSm := Lib.hid (fun W => show Calls Tryd.prog 9 #[.agg #[.int .i64 n, .string f, .string l, .int .i64 b, .int .i64 z]] W (SaysT2 t c W) by have := specPersonText_any n f l b z W hf hl; rwa [hx] at this)
    have HIs := Lib.hid (fun W => show Calls Tryd.prog 13 #[.agg #[.int .i64 n, .string f, .string l, .int .i64 b, .int .i64 z]] W (SaysBB ok W) by have := implIsPerson_any n f l b z W hf hl; rw [hIs] at this; exact this)
    have HNx := Lib.hid (persNeq 25 rfl n f l b z)
    clear hx hIs hX
    simp only
    obtain ⟨k0, k1, k2, k3, k4⟩ := HA1.out; simp only at k0 k1 k2 k3 k4
    go_wp2_with fail
    clear k0 k1 k2 k3 k4
    refine (HIm.out _ (HT.out.below Tryd.gPow HB1.out)).mono ?_; rintro e w2 ⟨rfl, hB⟩
    have HB2 := Lib.hid (HB1.out.trans (hB.mono HB1.out.size)); have HA2 := Lib.hid (HA1.out.below hB); clear hB
    obtain ⟨k0, k1, k2, k3, k4⟩ := HA2.out; simp only at k0 k1 k2 k3 k4
    go_wp2_with fail
    clear k0 k1 k2 k3 k4
    refine (HSm.out w2).mono ?_; rintro e w3 ⟨rfl, hB⟩
    have HB3 := Lib.hid (HB2.out.trans (hB.mono HB2.out.size)); have HA3 := Lib.hid (HA2.out.below hB); clear hB
    go_wp2_with fail
    refine (specDrawReadPerson_any a0 len0 cap0 bs w3 HL.out hm (HY.out.later HB3.out)).mono ?_; rintro e w4 ⟨s, rfl, hs, hB⟩
    have HB4 := Lib.hid (HB3.out.trans (hB.mono HB3.out.size)); have HA4 := Lib.hid (HA3.out.below hB); clear hB
    have hs2 : s.size ≤ 1048576 := by omega
    obtain ⟨y, c2, hr, hyf, hcy⟩ := text_back s
    obtain ⟨n2, f2, l2, b2, z2⟩ := y
    obtain ⟨hf2, hl2⟩ : f2.size ≤ maxLen ∧ l2.size ≤ maxLen := hyf
    have HIr := Lib.hid (show ∀ W, MaxAt W → ErrsAt W → Tabs Tryd.prog W → Calls Tryd.prog 11 #[.string s] W (fun e w' => e = .returned (.tuple #[.agg #[.int .i64 n2, .string f2, .string l2, .int .i64 b2, .int .i64 z2], .int .i64 c2]) ∧ Below W.heap.size W w') from fun W h1 h2 h3 => by have := implReadPerson_any s W hs2 h1 h2 h3; rw [hr] at this; exact this)
    have HSr := Lib.hid (show ∀ W, Calls Tryd.prog 12 #[.string s] W (fun e w' => e = .returned (.tuple #[.agg #[.int .i64 n2, .string f2, .string l2, .int .i64 b2, .int .i64 z2], .int .i64 c2]) ∧ Below W.heap.size W w') from fun W => by have := specReadPerson_any s W hs2; rw [hr] at this; exact this)
    have HYY := Lib.hid hcy; have HNy := Lib.hid (persNeq 25 rfl n2 f2 l2 b2 z2)
    clear hr hcy hs
    go_wp2_with fail
    refine (HIr.out w4 (HM.out.below HB4.out) (HE.out.below HB4.out) (HT.out.below Tryd.gPow HB4.out)).mono ?_; rintro e w5 ⟨rfl, hB⟩
    have HB5 := Lib.hid ((HB4.out.trans (hB.mono HB4.out.size)).alloc (Nat.le_trans HB4.out.size hB.size) (.cells #[.int .i64 n2, .string f2, .string l2, .int .i64 b2, .int .i64 z2] 25)); have HA5 := Lib.hid ((HA4.out.below hB).below (boxed w5 (.cells #[.int .i64 n2, .string f2, .string l2, .int .i64 b2, .int .i64 z2] 25))); clear hB
    have HC5 := Lib.hid (atB_box w5 n2 f2 l2 b2 z2 25)
    go_wp2_with fail
    refine (HSr.out _).mono ?_; rintro e w6 ⟨rfl, hB⟩
    have HB6 := Lib.hid ((HB5.out.trans (hB.mono HB5.out.size)).alloc (Nat.le_trans HB5.out.size hB.size) (.cells #[.int .i64 n2, .string f2, .string l2, .int .i64 b2, .int .i64 z2] 25)); have HA6 := Lib.hid ((HA5.out.below hB).below (boxed w6 (.cells #[.int .i64 n2, .string f2, .string l2, .int .i64 b2, .int .i64 z2] 25))); have HC6 := Lib.hid ((HC5.out.below hB).below (boxed w6 (.cells #[.int .i64 n2, .string f2, .string l2, .int .i64 b2, .int .i64 z2] 25))); clear hB
    have HD6 := Lib.hid (atB_box w6 n2 f2 l2 b2 z2 25)
    clear HIm HSm HIr HSr
    rcases HX.out with ⟨rfl, rfl, hts, hxt⟩ | ⟨rfl, rfl⟩
    · rcases HYY.out with ⟨rfl, hyt⟩ | rfl
      · obtain ⟨k0, k1, k2, k3, k4⟩ := HA6.out; simp only at k0 k1 k2 k3 k4
        obtain ⟨c0, c1, c2, c3, c4⟩ := HC6.out; simp only at c0 c1 c2 c3 c4
        obtain ⟨d0, d1, d2, d3, d4⟩ := HD6.out; simp only at d0 d1 d2 d3 d4
        have hnx := HNx.out; have hny := HNy.out
        go_wp2_with fail
        clear k0 k1 k2 k3 k4 c0 c1 c2 c3 c4 d0 d1 d2 d3 d4
        clear hnx hny
        refine (HIs.out _).mono ?_; rintro e w7 ⟨rfl, hB⟩
        have HB7 := Lib.hid (HB6.out.trans (hB.mono HB6.out.size)); have HA7 := Lib.hid (HA6.out.below hB); have HC7 := Lib.hid (HC6.out.below hB); clear hB
        have HI2 := Lib.hid (fun W (h : Tabs Tryd.prog W) => show Calls Tryd.prog 8 #[.agg #[.int .i64 n2, .string f2, .string l2, .int .i64 b2, .int .i64 z2]] W (SaysT2 s 0 W) by have := implPersonText_any n2 f2 l2 b2 z2 W hf2 hl2 h; rwa [hyt] at this)
        clear hyt
        obtain ⟨c0, c1, c2, c3, c4⟩ := HC7.out; simp only at c0 c1 c2 c3 c4
        go_wp2_with fail
        clear c0 c1 c2 c3 c4
        refine (HI2.out _ (HT.out.below Tryd.gPow HB7.out)).mono ?_; rintro e w8 ⟨rfl, hB⟩
        have HB8 := Lib.hid (HB7.out.trans (hB.mono HB7.out.size)); have HA8 := Lib.hid (HA7.out.below hB); clear hB
        have HI3 := Lib.hid (show ∀ W, MaxAt W → ErrsAt W → Tabs Tryd.prog W → Calls Tryd.prog 11 #[.string t] W (fun e w' => e = .returned (.tuple #[.agg #[.int .i64 n, .string f, .string l, .int .i64 b, .int .i64 z], .int .i64 0]) ∧ Below W.heap.size W w') from fun W h1 h2 h3 => by have := implReadPerson_any t W hts h1 h2 h3; rw [hxt] at this; exact this)
        clear hxt
        go_wp2_with fail
        refine (HI3.out w8 (HM.out.below HB8.out) (HE.out.below HB8.out) (HT.out.below Tryd.gPow HB8.out)).mono ?_; rintro e w9 ⟨rfl, hB⟩
        have HB9 := Lib.hid ((HB8.out.trans (hB.mono HB8.out.size)).alloc (Nat.le_trans HB8.out.size hB.size) (.cells #[.int .i64 n, .string f, .string l, .int .i64 b, .int .i64 z] 25)); have HA9 := Lib.hid ((HA8.out.below hB).below (boxed w9 (.cells #[.int .i64 n, .string f, .string l, .int .i64 b, .int .i64 z] 25))); clear hB
        have HE9 := Lib.hid (atB_box w9 n f l b z 25)
        obtain ⟨k0, k1, k2, k3, k4⟩ := HA9.out; simp only at k0 k1 k2 k3 k4
        obtain ⟨d0, d1, d2, d3, d4⟩ := HE9.out; simp only at d0 d1 d2 d3 d4
        have hnx := HNx.out
        go_wp2_with fail
        go_ret
        exact ⟨rfl, HB9.out⟩
      · obtain ⟨k0, k1, k2, k3, k4⟩ := HA6.out; simp only at k0 k1 k2 k3 k4
        obtain ⟨c0, c1, c2, c3, c4⟩ := HC6.out; simp only at c0 c1 c2 c3 c4
        obtain ⟨d0, d1, d2, d3, d4⟩ := HD6.out; simp only at d0 d1 d2 d3 d4
        have hnx := HNx.out; have hny := HNy.out
        go_wp2_with fail
        clear k0 k1 k2 k3 k4 c0 c1 c2 c3 c4 d0 d1 d2 d3 d4
        clear hnx hny
        refine (HIs.out _).mono ?_; rintro e w7 ⟨rfl, hB⟩
        have HB7 := Lib.hid (HB6.out.trans (hB.mono HB6.out.size)); have HA7 := Lib.hid (HA6.out.below hB); have HC7 := Lib.hid (HC6.out.below hB); clear hB
        have HI3 := Lib.hid (show ∀ W, MaxAt W → ErrsAt W → Tabs Tryd.prog W → Calls Tryd.prog 11 #[.string t] W (fun e w' => e = .returned (.tuple #[.agg #[.int .i64 n, .string f, .string l, .int .i64 b, .int .i64 z], .int .i64 0]) ∧ Below W.heap.size W w') from fun W h1 h2 h3 => by have := implReadPerson_any t W hts h1 h2 h3; rw [hxt] at this; exact this)
        clear hxt
        go_wp2_with fail
        refine (HI3.out w7 (HM.out.below HB7.out) (HE.out.below HB7.out) (HT.out.below Tryd.gPow HB7.out)).mono ?_; rintro e w8 ⟨rfl, hB⟩
        have HB8 := Lib.hid ((HB7.out.trans (hB.mono HB7.out.size)).alloc (Nat.le_trans HB7.out.size hB.size) (.cells #[.int .i64 n, .string f, .string l, .int .i64 b, .int .i64 z] 25)); have HA8 := Lib.hid ((HA7.out.below hB).below (boxed w8 (.cells #[.int .i64 n, .string f, .string l, .int .i64 b, .int .i64 z] 25))); clear hB
        have HE8 := Lib.hid (atB_box w8 n f l b z 25)
        obtain ⟨k0, k1, k2, k3, k4⟩ := HA8.out; simp only at k0 k1 k2 k3 k4
        obtain ⟨d0, d1, d2, d3, d4⟩ := HE8.out; simp only at d0 d1 d2 d3 d4
        have hnx := HNx.out
        go_wp2_with fail
        go_ret
        exact ⟨rfl, HB8.out⟩
    · rcases HYY.out with ⟨rfl, hyt⟩ | rfl
      · obtain ⟨k0, k1, k2, k3, k4⟩ := HA6.out; simp only at k0 k1 k2 k3 k4
        obtain ⟨c0, c1, c2, c3, c4⟩ := HC6.out; simp only at c0 c1 c2 c3 c4
        obtain ⟨d0, d1, d2, d3, d4⟩ := HD6.out; simp only at d0 d1 d2 d3 d4
        have hnx := HNx.out; have hny := HNy.out
        go_wp2_with fail
        clear k0 k1 k2 k3 k4 c0 c1 c2 c3 c4 d0 d1 d2 d3 d4
        clear hnx hny
        refine (HIs.out _).mono ?_; rintro e w7 ⟨rfl, hB⟩
        have HB7 := Lib.hid (HB6.out.trans (hB.mono HB6.out.size)); have HA7 := Lib.hid (HA6.out.below hB); have HC7 := Lib.hid (HC6.out.below hB); clear hB
        have HI2 := Lib.hid (fun W (h : Tabs Tryd.prog W) => show Calls Tryd.prog 8 #[.agg #[.int .i64 n2, .string f2, .string l2, .int .i64 b2, .int .i64 z2]] W (SaysT2 s 0 W) by have := implPersonText_any n2 f2 l2 b2 z2 W hf2 hl2 h; rwa [hyt] at this)
        clear hyt
        obtain ⟨c0, c1, c2, c3, c4⟩ := HC7.out; simp only at c0 c1 c2 c3 c4
        go_wp2_with fail
        clear c0 c1 c2 c3 c4
        refine (HI2.out _ (HT.out.below Tryd.gPow HB7.out)).mono ?_; rintro e w8 ⟨rfl, hB⟩
        have HB8 := Lib.hid (HB7.out.trans (hB.mono HB7.out.size)); have HA8 := Lib.hid (HA7.out.below hB); clear hB
        go_wp2_with fail
        go_ret
        exact ⟨rfl, HB8.out⟩
      · obtain ⟨k0, k1, k2, k3, k4⟩ := HA6.out; simp only at k0 k1 k2 k3 k4
        obtain ⟨c0, c1, c2, c3, c4⟩ := HC6.out; simp only at c0 c1 c2 c3 c4
        obtain ⟨d0, d1, d2, d3, d4⟩ := HD6.out; simp only at d0 d1 d2 d3 d4
        have hnx := HNx.out; have hny := HNy.out
        go_wp2_with fail
        clear k0 k1 k2 k3 k4 c0 c1 c2 c3 c4 d0 d1 d2 d3 d4
        clear hnx hny
        refine (HIs.out _).mono ?_; rintro e w7 ⟨rfl, hB⟩
        have HB7 := Lib.hid (HB6.out.trans (hB.mono HB6.out.size)); have HA7 := Lib.hid (HA6.out.below hB); have HC7 := Lib.hid (HC6.out.below hB); clear hB
        go_wp2_with fail
        go_ret
        exact ⟨rfl, HB7.out⟩

/-- A start that fits: the heap that the variables' own initialisers leave (and the pinned table, where the row lists one). -/
theorem laid_met (os : Os) : laidMetH Tryd.prog Rows.fnPersonTextsRow.laid ((doorWorldP os).forCall (fun _ _ => 0) ⟨#[], #[.slice none 0 0], []⟩).memory :=
  laidMetH_of_parts3 (fuel := 8) (laidMet_of_run' 8 (by kernel_rfl) (by kernel_rfl)) (by kernel_rfl) (by kernel_rfl)
theorem reads (os : Os) {H : Type} (enc : TypeId × Value → H) : DataW.whole enc Tryd.prog ((doorWorldP os).forCall (fun _ _ => 0) ⟨#[], #[.slice none 0 0], []⟩).memory Tryd.f3.params.toList Rows.fnPersonTextsSpec.vars false (#[.slice none 0 0] : Array Value).toList 8 = some ([.nil], [], []) :=
  by kernel_rfl

set_option maxRecDepth 100000 in
theorem lifted (os : Os) (started : os.Started) (H : Type) (enc : TypeId × Value → H) (F : Stop.Interp) :
    ReturnsInHanded {} Tryd.checked os 3 .any ((OpenSpec.ofChange Rows.fnPersonTextsSpec).preRow enc Tryd.prog Tryd.f3 Rows.fnPersonTextsRow.domain false Rows.fnPersonTextsRow.laid) (((OpenSpec.ofChange Rows.fnPersonTextsSpec).at F).post enc Tryd.prog Tryd.f3 false true false false) := by
  refine returnsInHanded_of_row (C := Tryd.checked) (s := OpenSpec.ofChange Rows.fnPersonTextsSpec) own started (by kernel_rfl) Tryd.func3
    (witness_row_atRef (enc := enc) (C := Tryd.checked) false (doorWorldP os) #[.slice none 0 0] rfl (by kernel_rfl) (by kernel_rfl) (by kernel_rfl)
      (OpenSpec.preRow_of_cond 8 (reads os enc) (by kernel_rfl) (fun k hk => by cases hk) (by kernel_rfl) (laid_met os))) ?_
  intro W base args ds gs before hval0 hW _ _ _ hL hsh _
  have hval : ∀ (j : Nat) t v, Tryd.f3.params[j]? = some t → args[j]? = some v → Value.okWide Tryd.prog W .any base t v := hval0
  have hW' := hW
  obtain ⟨p, q, hA0, hV, rfl, hfz, hnd⟩ := hW
  have hA : DataW.TrodAll enc Tryd.prog W 0 (fun _ => true) true Tryd.f3.params.toList args.toList ds p := hA0
  rw [Tryd.params3] at hA hval
  obtain ⟨v0, vs0, d0, ds0, p0, q0, hargs, rfl, rfl, h0, r0⟩ := trodAll_cons hA
  obtain ⟨rfl, rfl, rfl⟩ := trodAll_nil r0
  obtain rfl : args = #[v0] := by cases args; simp_all
  obtain ⟨rfl, rfl⟩ := trodVars_none hV
  obtain ⟨a0, len0, cap0, rfl⟩ := okWide_slice Tryd.underlying22 (hval 0 22 v0 rfl rfl)
  have k0 := h0
  have lt0 : ∀ x ∈ p0, x.block < W.heap.size := by obtain ⟨m, hm⟩ := k0; exact DataW.trod_lt m _ _ _ hm
  obtain ⟨z0, w0⟩ : ∃ zs, IsRow .u8 W a0 len0 cap0 zs := by
    obtain ⟨fuel, hf⟩ := h0
    rcases open_ints Tryd.underlying22 Tryd.underlying5 (by kernel_rfl) hf with ⟨hcs, _⟩ | ⟨x, l, c, zs, hcs, _, hl, hm, hz, _, hcell, hwz⟩
    · simp [Value.cells] at hcs
      obtain ⟨rfl, rfl, rfl⟩ := hcs
      exact ⟨[], .inl ⟨rfl, rfl, rfl, rfl⟩⟩
    · simp [Value.cells] at hcs
      obtain ⟨rfl, rfl, rfl⟩ := hcs
      exact ⟨zs, .inr ⟨_, rfl, hl, hm, by simpa using hz, hcell, hwz⟩⟩
  clear hA0 hval0
  refine (walk W hL hsh a0 len0 cap0 z0 w0).mono fun e W' ⟨he, bel⟩ => ?_
  subst he
  exact ⟨_, rfl, _, _, _, [], _, [], hW', trodAll_mk1 (shut_bool Tryd.underlying4 _), (trodAll_cons_mk (Below.trod laidOut (by kernel_rfl) (of_decide_eq_true (by kernel_rfl)) k0 bel lt0) trodAll_mk0), rfl, bel.frame _, fun h => by cases h⟩

theorem said : Rows.FnPersonTextsSaid :=
  OpenClaim.holds_of_cond 3 Tryd.f3 rfl rfl rfl rfl rfl rfl rfl ⟨rfl, rfl, rfl, rfl, rfl⟩ rfl rfl rfl rfl rfl (by kernel_rfl) Tryd.func3 (by kernel_rfl)
    (of_decide_eq_true (by kernel_rfl)) (by unfold Func.isWrapper; first | (rw [if_pos (by decide +kernel)]; kernel_rfl) | (rw [if_neg (by decide +kernel)]; exact ⟨rfl, rfl⟩))
    (fun os started H enc _ F => by rw [OpenClaim.pre_eq_preRow]; exact lifted os started H enc F)

/-- The statement: the tied card. -/
theorem proved : Rows.FnPersonTextsCardSaid :=
  Claim7.holds_tied_plain_at .later [] _ _ _ _ said (fun _ h => by cases h) (by kernel_rfl) (fun _ h => by cases h) fnPersonTexts_row_tie rfl ⟨rfl, rfl⟩ (by kernel_rfl) rfl
    (fun f fn hf hfn => by
      obtain rfl : f = 3 := Option.some.inj ((show Tryd.prog.funcNamed "loop.example/g01027/laws.FnPersonTexts" = some 3 by kernel_rfl).symm.trans hf) |>.symm
      obtain rfl : fn = Tryd.f3 := (Option.some.inj (Tryd.func3.symm.trans hfn)).symm
      exact ⟨by kernel_rfl, fun j t ht => by
        rw [Tryd.params3] at ht
        have hm : t ∈ [22] := by simpa using Array.mem_of_getElem? ht
        have hall : ([22].all fun u => !Tryd.prog.wantsStandIn u) = true := by kernel_rfl
        exact (show Tryd.prog.wantsStandIn t = false by simpa using List.all_eq_true.1 hall t hm)⟩)
    (by kernel_rfl)
end Go.Proofs.YtgjhpeofcbdaaaaDoor.fnPersonTexts
