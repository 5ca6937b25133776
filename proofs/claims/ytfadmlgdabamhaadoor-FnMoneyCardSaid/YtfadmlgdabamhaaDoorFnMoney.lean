/- Proved: for every code, laws.FnMoney returns true and leaves its argument as it was: cents are recovered from their text (the card's own condition: the listed variables of Go's library hold what the program's text lays). -/
import Derived.Test.YtfadmlgdabamhaaDoorRows
import Derived.Test.YtfadmlgdabamhaaDoorCards
import Derived.Test.YtfadmlgdabamhaaDoorTie
import Derived.WalkKit
import Derived.ProofKit
import Derived.OpenShut
import Derived.ShutString
import Derived.ChangeOld
import Derived.Below
import Derived.SliceStrings
import Derived.Lib.Hide
import Derived.Deep.DeepHandedRow
import Derived.Deep.DeepWitnessRowRef
import Derived.SevenTiedAt
import Derived.Test.YtfadmlgdabamhaaDoorDrawM
import Derived.Test.YtfadmlgdabamhaaDoorBig
import Derived.Test.YtfadmlgdabamhaaDoorRoundM
import Derived.Test.YtfadmlgdabamhaaDoorReadMS
import Derived.Test.YtfadmlgdabamhaaDoorReadMI
import Derived.Test.YtfadmlgdabamhaaDoorDoorW
import Derived.Test.YtfadmlgdabamhaaDoorDoorE
namespace Go.Proofs.YtfadmlgdabamhaaDoor.fnMoney
open Go.ChangeShapes Go.WideShapes Go.ChangeAt Go.RowKit
open Go.ChangeMaps (open_string shut_string)
open Pure2 Pure4 Pure6 Pure9
set_option linter.unusedVariables false

theorem own : ownKnob Tryd.prog.godebug = none := by kernel_rfl
theorem laidOut : laidOutB Tryd.prog = true := by kernel_rfl

/-- What the walk is told of a slice of integers that came in: it is nil, or it leads to a row of cap cells, the numbers zs. -/
def IsRow (k : IntKind) (w : World) (a : Option Addr) (len cap : Nat) (zs : List Int) : Prop :=
  (a = none ∧ len = 0 ∧ cap = 0 ∧ zs = []) ∨
  ∃ x, a = some x ∧ len ≤ cap ∧ cap ≤ maxLen ∧ zs.length = cap ∧ (∀ i, i < zs.length → w.cell? (x.add i) = some (.int k (zs.getD i 0))) ∧ ∀ n ∈ zs, (Lit.int k n).wf = true

set_option maxHeartbeats 400000 in
theorem walk (w : World) (hL : laidMetH Tryd.prog Rows.fnMoneyRow.laid w) (hsh : w.ShapedOpen Tryd.prog) (a0 : Option Addr) (len0 cap0 : Nat) (z0 : List Int) (w0 : IsRow .u8 w a0 len0 cap0 z0) :
    Calls Tryd.prog 5 #[.slice a0 len0 cap0] w fun e w' => e = .returned (.bool true) ∧ Below w.heap.size w w' := by
  have hM := maxAt_of hsh
  have HT := Lib.hid (tabs_of hL (by simp [Rows.fnMoneyRow]))
  have HE := Lib.hid (errs_of hL (by simp [Rows.fnMoneyRow]) (by simp [Rows.fnMoneyRow]))
  clear hL hsh
  obtain ⟨hl, hY⟩ := bytes_of_row w0
  generalize z0.take len0 = bs at hl hY
  have HL := Lib.hid hl; have HY := Lib.hid hY; clear hl hY w0
  have HBig := Lib.hid (lawsBig_any a0 len0 cap0 w)
  by_cases hb : 4096 < len0
  · rw [decide_eq_true hb] at HBig
    go_enter Tryd.func5, Tryd.ntmps5
    go_wp2_with fail
    refine HBig.out.mono ?_; rintro e w' ⟨rfl, rfl⟩
    go_wp2_with fail
    go_ret
    exact ⟨rfl, Below.refl _ _⟩
  · rw [decide_eq_false hb] at HBig
    have hm : len0 ≤ 4096 := by omega
    have HM := Lib.hid hM
    clear hb hM
    go_enter Tryd.func5, Tryd.ntmps5
    go_wp2_with fail
    refine HBig.out.mono ?_; rintro e w' ⟨rfl, rfl⟩
    go_wp2_with fail
    refine (specDrawMoneyText_any a0 len0 cap0 bs w HL.out hm HY.out).mono ?_; rintro e w1 ⟨x, rfl, hB1⟩
    have HB1 := Lib.hid hB1; clear hB1
    obtain ⟨t, bad, hx, hcx⟩ := money_there x
    have HIm := Lib.hid (fun W (h : Tabs Tryd.prog W) => show Calls Tryd.prog 27 #[.int .i64 x] W (SaysT2 t bad W) by have := implMoneyText_any x W h; rwa [hx] at this)
    have HSm := Lib.hid (fun W => show Calls Tryd.prog 28 #[.int .i64 x] W (SaysT2 t bad W) by have := specMoneyText_any x W; rwa [hx] at this)
    have HX := Lib.hid hcx; clear hx hcx
    go_wp2_with fail
    refine (HIm.out w1 (HT.out.below Tryd.gPow HB1.out)).mono ?_; rintro e w2 ⟨rfl, hB2⟩
    have HB2 := Lib.hid (HB1.out.trans (hB2.mono HB1.out.size)); clear hB2
    go_wp2_with fail
    refine (HSm.out w2).mono ?_; rintro e w3 ⟨rfl, hB3⟩
    have HB3 := Lib.hid (HB2.out.trans (hB3.mono HB2.out.size)); clear hB3
    go_wp2_with fail
    refine (specDrawReadMoney_any a0 len0 cap0 bs w3 HL.out hm (HY.out.later HB3.out)).mono ?_; rintro e w4 ⟨s, rfl, hs, hB4⟩
    have HB4 := Lib.hid (HB3.out.trans (hB4.mono HB3.out.size)); clear hB4
    have hs2 : s.size ≤ 1048576 := by omega
    obtain ⟨y, one, hy, hcy⟩ := money_back s
    have HIr := Lib.hid (fun W (h : MaxAt W) (h2 : ErrsAt W) (h3 : Tabs Tryd.prog W) => show Calls Tryd.prog 30 #[.string s] W (fun e w' => e = .returned (.tuple #[.int .i64 y, .int .i64 one]) ∧ Below W.heap.size W w') by have := implReadMoney_any s W hs2 h h2 h3; rwa [hy] at this)
    have HSr := Lib.hid (fun W => show Calls Tryd.prog 31 #[.string s] W (fun e w' => e = .returned (.tuple #[.int .i64 y, .int .i64 one]) ∧ Below W.heap.size W w') by have := specReadMoney_any s W hs2; rwa [hy] at this)
    have HYY := Lib.hid hcy; clear hy hcy
    go_wp2_with fail
    refine (HIr.out w4 (HM.out.below HB4.out) (HE.out.below HB4.out) (HT.out.below Tryd.gPow HB4.out)).mono ?_; rintro e w5 ⟨rfl, hB5⟩
    have HB5 := Lib.hid (HB4.out.trans (hB5.mono HB4.out.size)); clear hB5
    go_wp2_with fail
    refine (HSr.out w5).mono ?_; rintro e w6 ⟨rfl, hB6⟩
    have HB6 := Lib.hid (HB5.out.trans (hB6.mono HB5.out.size)); clear hB6
    clear HIm HSm HIr HSr
    rcases HYY.out with ⟨rfl, hyt⟩ | rfl
    · have HI2 := Lib.hid (fun W (h : Tabs Tryd.prog W) => show Calls Tryd.prog 27 #[.int .i64 y] W (SaysT2 s 0 W) by have := implMoneyText_any y W h; rwa [hyt] at this)
      clear HYY hyt
      go_wp2_with fail
      refine (HI2.out w6 (HT.out.below Tryd.gPow HB6.out)).mono ?_; rintro e w7 ⟨rfl, hB7⟩
      have HB7 := Lib.hid (HB6.out.trans (hB7.mono HB6.out.size)); clear hB7
      rcases HX.out with ⟨rfl, hxt, hts⟩ | rfl
      · have HI3 := Lib.hid (fun W (h : MaxAt W) (h2 : ErrsAt W) (h3 : Tabs Tryd.prog W) => show Calls Tryd.prog 30 #[.string t] W (fun e w' => e = .returned (.tuple #[.int .i64 x, .int .i64 0]) ∧ Below W.heap.size W w') by have := implReadMoney_any t W hts h h2 h3; rwa [hxt] at this)
        clear HX hxt hts
        go_wp2_with fail
        refine (HI3.out w7 (HM.out.below HB7.out) (HE.out.below HB7.out) (HT.out.below Tryd.gPow HB7.out)).mono ?_; rintro e w8 ⟨rfl, hB8⟩
        have HB8 := Lib.hid (HB7.out.trans (hB8.mono HB7.out.size)); clear hB8
        go_wp2_with fail
        go_ret
        exact ⟨rfl, HB8.out⟩
      · go_wp2_with fail
        go_ret
        exact ⟨rfl, HB7.out⟩
    · rcases HX.out with ⟨rfl, hxt, hts⟩ | rfl
      · have HI3 := Lib.hid (fun W (h : MaxAt W) (h2 : ErrsAt W) (h3 : Tabs Tryd.prog W) => show Calls Tryd.prog 30 #[.string t] W (fun e w' => e = .returned (.tuple #[.int .i64 x, .int .i64 0]) ∧ Below W.heap.size W w') by have := implReadMoney_any t W hts h h2 h3; rwa [hxt] at this)
        clear HX hxt hts
        go_wp2_with fail
        refine (HI3.out w6 (HM.out.below HB6.out) (HE.out.below HB6.out) (HT.out.below Tryd.gPow HB6.out)).mono ?_; rintro e w8 ⟨rfl, hB8⟩
        have HB8 := Lib.hid (HB6.out.trans (hB8.mono HB6.out.size)); clear hB8
        go_wp2_with fail
        go_ret
        exact ⟨rfl, HB8.out⟩
      · go_wp2_with fail
        go_ret
        exact ⟨rfl, HB6.out⟩

/-- A start that fits: the heap that the variables' own initialisers leave (and the pinned table, where the row lists one). -/
theorem laid_met (os : Os) : laidMetH Tryd.prog Rows.fnMoneyRow.laid ((doorWorld os).forCall (fun _ _ => 0) ⟨#[], #[.slice none 0 0], []⟩).memory :=
  laidMetH_of_parts3 (fuel := 8) (laidMet_of_run' 8 (by kernel_rfl) (by kernel_rfl)) (by kernel_rfl) (by kernel_rfl)
theorem reads (os : Os) {H : Type} (enc : TypeId × Value → H) : DataW.whole enc Tryd.prog ((doorWorld os).forCall (fun _ _ => 0) ⟨#[], #[.slice none 0 0], []⟩).memory Tryd.f5.params.toList Rows.fnMoneySpec.vars false (#[.slice none 0 0] : Array Value).toList 8 = some ([.nil], [], []) :=
  by kernel_rfl

set_option maxRecDepth 100000 in
theorem lifted (os : Os) (started : os.Started) (H : Type) (enc : TypeId × Value → H) (F : Stop.Interp) :
    ReturnsInHanded {} Tryd.checked os 5 .any ((OpenSpec.ofChange Rows.fnMoneySpec).preRow enc Tryd.prog Tryd.f5 Rows.fnMoneyRow.domain false Rows.fnMoneyRow.laid) (((OpenSpec.ofChange Rows.fnMoneySpec).at F).post enc Tryd.prog Tryd.f5 false true false false) := by
  refine returnsInHanded_of_row (C := Tryd.checked) (s := OpenSpec.ofChange Rows.fnMoneySpec) own started (by kernel_rfl) Tryd.func5
    (witness_row_atRef (enc := enc) (C := Tryd.checked) false (doorWorld os) #[.slice none 0 0] rfl (by kernel_rfl) (by kernel_rfl) (by kernel_rfl)
      (OpenSpec.preRow_of_cond 8 (reads os enc) (by kernel_rfl) (fun k hk => by cases hk) (by kernel_rfl) (laid_met os))) ?_
  intro W base args ds gs before hval0 hW _ _ _ hL hsh _
  have hval : ∀ (j : Nat) t v, Tryd.f5.params[j]? = some t → args[j]? = some v → Value.okWide Tryd.prog W .any base t v := hval0
  have hW' := hW
  obtain ⟨p, q, hA0, hV, rfl, hfz, hnd⟩ := hW
  have hA : DataW.TrodAll enc Tryd.prog W 0 (fun _ => true) true Tryd.f5.params.toList args.toList ds p := hA0
  rw [Tryd.params5] at hA hval
  obtain ⟨v0, vs0, d0, ds0, p0, q0, hargs, rfl, rfl, h0, r0⟩ := trodAll_cons hA
  obtain ⟨rfl, rfl, rfl⟩ := trodAll_nil r0
  obtain rfl : args = #[v0] := by cases args; simp_all
  obtain ⟨rfl, rfl⟩ := trodVars_none hV
  obtain ⟨a0, len0, cap0, rfl⟩ := okWide_slice Tryd.underlying22 (hval 0 22 v0 rfl rfl)
  have k0 := h0
  have lt0 : ∀ x ∈ p0, x.block < W.heap.size := by obtain ⟨m, hm⟩ := k0; exact DataW.trod_lt m _ _ _ hm
  obtain ⟨z0, w0⟩ : ∃ zs, IsRow .u8 W a0 len0 cap0 zs := by
    obtain ⟨fuel, hf⟩ := h0
    rcases open_ints Tryd.underlying22 Tryd.underlying5 (by kernel_rfl) hf with ⟨hcs, _⟩ | ⟨x, l, c, zs, hcs, _, hl, hm, hz, _, hcell, hwz⟩
    · simp [Value.cells] at hcs
      obtain ⟨rfl, rfl, rfl⟩ := hcs
      exact ⟨[], .inl ⟨rfl, rfl, rfl, rfl⟩⟩
    · simp [Value.cells] at hcs
      obtain ⟨rfl, rfl, rfl⟩ := hcs
      exact ⟨zs, .inr ⟨_, rfl, hl, hm, by simpa using hz, hcell, hwz⟩⟩
  clear hA0 hval0
  refine (walk W hL hsh a0 len0 cap0 z0 w0).mono fun e W' ⟨he, bel⟩ => ?_
  subst he
  exact ⟨_, rfl, _, _, _, [], _, [], hW', trodAll_mk1 (shut_bool Tryd.underlying4 _), (trodAll_cons_mk (Below.trod laidOut (by kernel_rfl) (of_decide_eq_true (by kernel_rfl)) k0 bel lt0) trodAll_mk0), rfl, bel.frame _, fun h => by cases h⟩

theorem said : Rows.FnMoneySaid :=
  OpenClaim.holds_of_cond 5 Tryd.f5 rfl rfl rfl rfl rfl rfl rfl ⟨rfl, rfl, rfl, rfl, rfl⟩ rfl rfl rfl rfl rfl (by kernel_rfl) Tryd.func5 (by kernel_rfl)
    (of_decide_eq_true (by kernel_rfl)) (by unfold Func.isWrapper; first | (rw [if_pos (by decide +kernel)]; kernel_rfl) | (rw [if_neg (by decide +kernel)]; exact ⟨rfl, rfl⟩))
    (fun os started H enc _ F => by rw [OpenClaim.pre_eq_preRow]; exact lifted os started H enc F)

/-- The statement: the tied card. -/
theorem proved : Rows.FnMoneyCardSaid :=
  Claim7.holds_tied_plain_at .later [] _ _ _ _ said (fun _ h => by cases h) (by kernel_rfl) (fun _ h => by cases h) fnMoney_row_tie rfl ⟨rfl, rfl⟩ (by kernel_rfl) rfl
    (fun f fn hf hfn => by
      obtain rfl : f = 5 := Option.some.inj ((show Tryd.prog.funcNamed "loop.example/g01027/laws.FnMoney" = some 5 by kernel_rfl).symm.trans hf) |>.symm
      obtain rfl : fn = Tryd.f5 := (Option.some.inj (Tryd.func5.symm.trans hfn)).symm
      exact ⟨by kernel_rfl, fun j t ht => by
        rw [Tryd.params5] at ht
        have hm : t ∈ [22] := by simpa using Array.mem_of_getElem? ht
        have hall : ([22].all fun u => !Tryd.prog.wantsStandIn u) = true := by kernel_rfl
        exact (show Tryd.prog.wantsStandIn t = false by simpa using List.all_eq_true.1 hall t hm)⟩)
    (by kernel_rfl)
end Go.Proofs.YtfadmlgdabamhaaDoor.fnMoney
