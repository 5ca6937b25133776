/- Proved: for every code, laws.FnWords returns true and leaves its argument as it was: words are recovered from their text (the card's own condition: the listed variables of Go's library hold what the program's text lays). -/
import Derived.Test.YtfadmlgdabamhaaDoorRows
import Derived.Test.YtfadmlgdabamhaaDoorCards
import Derived.Test.YtfadmlgdabamhaaDoorTie
import Derived.WalkKit
import Derived.ProofKit
import Derived.OpenShut
import Derived.ShutString
import Derived.ChangeOld
import Derived.Below
import Derived.SliceStrings
import Derived.Lib.Hide
import Derived.Deep.DeepHandedRow
import Derived.Deep.DeepWitnessRowRef
import Derived.SevenTiedAt
import Derived.Test.YtfadmlgdabamhaaDoorDrawX
import Derived.Test.YtfadmlgdabamhaaDoorBig
import Derived.Test.YtfadmlgdabamhaaDoorRoundL
import Derived.Test.YtfadmlgdabamhaaDoorReadW
import Derived.Test.YtfadmlgdabamhaaDoorWordsT
import Derived.Test.YtfadmlgdabamhaaDoorLikeStr
import Derived.Test.YtfadmlgdabamhaaDoorEqStr
import Derived.Test.YtfadmlgdabamhaaDoorDoorW
namespace Go.Proofs.YtfadmlgdabamhaaDoor.fnWords
open Go.ChangeShapes Go.WideShapes Go.ChangeAt Go.RowKit
open Go.ChangeMaps (open_string shut_string)
open Pure2 Pure3 Pure4 Pure5 Pure6 Pure8
set_option linter.unusedVariables false

theorem own : ownKnob Tryd.prog.godebug = none := by kernel_rfl
theorem laidOut : laidOutB Tryd.prog = true := by kernel_rfl

/-- What the walk is told of a slice of integers that came in: it is nil, or it leads to a row of cap cells, the numbers zs. -/
def IsRow (k : IntKind) (w : World) (a : Option Addr) (len cap : Nat) (zs : List Int) : Prop :=
  (a = none ∧ len = 0 ∧ cap = 0 ∧ zs = []) ∨
  ∃ x, a = some x ∧ len ≤ cap ∧ cap ≤ maxLen ∧ zs.length = cap ∧ (∀ i, i < zs.length → w.cell? (x.add i) = some (.int k (zs.getD i 0))) ∧ ∀ n ∈ zs, (Lit.int k n).wf = true

set_option maxHeartbeats 400000 in
theorem walk (w : World) (hL : laidMetH Tryd.prog Rows.fnWordsRow.laid w) (hsh : w.ShapedOpen Tryd.prog) (a0 : Option Addr) (len0 cap0 : Nat) (z0 : List Int) (w0 : IsRow .u8 w a0 len0 cap0 z0) :
    Calls Tryd.prog 3 #[.slice a0 len0 cap0] w fun e w' => e = .returned (.bool true) ∧ Below w.heap.size w w' := by
  have hM := maxAt_of hsh
  clear hL hsh
  obtain ⟨hl, hY⟩ := bytes_of_row w0
  generalize z0.take len0 = bs at hl hY
  have HL := Lib.hid hl; have HY := Lib.hid hY; clear hl hY w0
  have HBig := Lib.hid (lawsBig_any a0 len0 cap0 w)
  by_cases hb : 4096 < len0
  · rw [decide_eq_true hb] at HBig
    go_enter Tryd.func3, Tryd.ntmps3
    go_wp2_with fail
    refine HBig.out.mono ?_; rintro e w' ⟨rfl, rfl⟩
    go_wp2_with fail
    go_ret
    exact ⟨rfl, Below.refl _ _⟩
  · rw [decide_eq_false hb] at HBig
    have hm : len0 ≤ 4096 := by omega
    have HM := Lib.hid hM
    clear hb hM
    go_enter Tryd.func3, Tryd.ntmps3
    go_wp2_with fail
    refine HBig.out.mono ?_; rintro e w' ⟨rfl, rfl⟩
    go_wp2_with fail
    refine (specDrawWordsText_any a0 len0 cap0 bs w HL.out hm HY.out).mono ?_; rintro e w1 ⟨a, cap, ss, rfl, hcap, hz, hzs, hI, hB1⟩
    have HI := Lib.hid hI; have HB1 := Lib.hid hB1; clear hI hB1
    have hzm : ss.length ≤ maxLen := by unfold maxLen; omega
    have HZ := Lib.hid (show ∀ x ∈ ss, x.size ≤ maxLen from fun x hx => Nat.le_trans (hzs x hx) (by decide)); clear hzs
    obtain ⟨t, bad, hx, hcx⟩ := words_there ss
    have HIm := Lib.hid (fun W (hi : StrsAt W a ss) => show Calls Tryd.prog 13 #[.slice a ss.length cap] W (SaysT2 t bad W) by have := implWordsText_any a ss.length cap ss W rfl hzm hcap hi HZ.out; rwa [hx] at this)
    have HSm := Lib.hid (fun W (hi : StrsAt W a ss) => show Calls Tryd.prog 14 #[.slice a ss.length cap] W (fun e w' => e = .returned (.tuple #[.string t, .int .i64 bad]) ∧ W = w') by have := specWordsText_any a ss.length cap ss W rfl hzm hi HZ.out; rwa [hx] at this)
    have HX := Lib.hid hcx; clear hx hcx
    go_wp2_with fail
    refine (HIm.out w1 HI.out).mono ?_; rintro e w2 ⟨rfl, hB2⟩
    have HI2 := Lib.hid (HI.out.below hB2); have HB2 := Lib.hid (HB1.out.trans (hB2.mono HB1.out.size)); clear hB2
    go_wp2_with fail
    refine (HSm.out w2 HI2.out).mono ?_; rintro e w' ⟨rfl, rfl⟩
    go_wp2_with fail
    refine (specDrawReadWords_any a0 len0 cap0 bs w2 HL.out hm (HY.out.later HB2.out)).mono ?_; rintro e w4 ⟨s, rfl, hs, hB4⟩
    have HI4 := Lib.hid (HI2.out.below hB4); have HB4 := Lib.hid (HB2.out.trans (hB4.mono HB2.out.size)); clear hB4
    have hs2 : s.size ≤ 1048576 := by omega
    obtain ⟨ys, one, hy, hcy⟩ := words_back s
    have hym : ys.length ≤ maxLen := by
      unfold maxLen
      rcases hcy with ⟨_, _, h, _⟩ | ⟨_, rfl⟩
      · omega
      · exact Nat.zero_le _
    have HIr := Lib.hid (fun W (h : MaxAt W) => show Calls Tryd.prog 16 #[.string s] W (SaysNew2 ys one W) by have := implReadWords_any s W hs2 h; rwa [hy] at this)
    have HSr := Lib.hid (fun W => show Calls Tryd.prog 17 #[.string s] W (SaysRead ys one W) by have := specReadWords_any s W hs2; rwa [hy] at this)
    have HYY := Lib.hid hcy; clear hy hcy
    go_wp2_with fail
    refine (HIr.out w4 (HM.out.below HB4.out)).mono ?_; rintro e w5 ⟨v, rfl, hN⟩
    obtain ⟨b, capb, rfl, hcb, hB5, hrow⟩ := hN
    have HG5 := Lib.hid (NewStrs.at (⟨b, capb, rfl, hcb, hB5, hrow⟩ : NewStrs w4 ys (.slice b ys.length capb) w5)); have HI5 := Lib.hid (HI4.out.below hB5); have HB5 := Lib.hid (HB4.out.trans (hB5.mono HB4.out.size)); clear hB5 hrow
    go_wp2_with fail
    refine (HSr.out w5).mono ?_; rintro e w6 ⟨c, capc, rfl, hA6, hB6⟩
    have HA6 := Lib.hid hA6; have HG6 := Lib.hid (HG5.out.below hB6); have HI6 := Lib.hid (HI5.out.below hB6); have HB6 := Lib.hid (HB5.out.trans (hB6.mono HB5.out.size)); clear hB6 hA6
    clear HIm HSm HIr HSr HI HI2 HI4 HI5
    go_wp2_with fail
    refine (likeTexts_any b c ys.length capb ys.length capc ys ys w6 rfl rfl hym hym HG6.out HA6.out).mono ?_; rintro e w' ⟨rfl, n6, rfl⟩
    rw [sameS_self]
    have HD6 := Lib.hid (Go.below_drewN (Below.refl w6.heap.size w6) n6)
    obtain ⟨w7, hw7⟩ : ∃ w7, w7 = w6.drewN n6 := ⟨_, rfl⟩
    rw [← hw7] at HD6 ⊢; clear hw7
    have HG7 := Lib.hid (HG6.out.below HD6.out); have HI7 := Lib.hid (HI6.out.below HD6.out); have HB7 := Lib.hid (HB6.out.trans (HD6.out.mono HB6.out.size))
    clear HD6 HG6 HI6 HB6 HA6 HG5
    rcases HYY.out with ⟨rfl, hyt, _, hys⟩ | ⟨rfl, _⟩
    · have HI2 := Lib.hid (fun W (hi : StrsAt W b ys) => show Calls Tryd.prog 13 #[.slice b ys.length capb] W (SaysT2 s 0 W) by have := implWordsText_any b ys.length capb ys W rfl hym hcb hi (fun x hx => Nat.le_trans (hys x hx) (by decide)); rwa [hyt] at this)
      clear HYY hyt hys
      go_wp2_with fail
      refine (HI2.out w7 HG7.out).mono ?_; rintro e w8 ⟨rfl, hB8⟩
      have HI8 := Lib.hid (HI7.out.below hB8); have HB8 := Lib.hid (HB7.out.trans (hB8.mono HB7.out.size)); clear hB8
      rcases HX.out with ⟨rfl, hxt, hts⟩ | rfl | rfl
      · have HI3 := Lib.hid (fun W (h : MaxAt W) => show Calls Tryd.prog 16 #[.string t] W (SaysNew2 ss 0 W) by have := implReadWords_any t W hts h; rwa [hxt] at this)
        clear HX hxt hts
        go_wp2_with fail
        refine (HI3.out w8 (HM.out.below HB8.out)).mono ?_; rintro e w20 ⟨v, rfl, hN⟩
        obtain ⟨g, capg, rfl, hcg, hB20, hrow⟩ := hN
        have HG20 := Lib.hid (NewStrs.at (⟨g, capg, rfl, hcg, hB20, hrow⟩ : NewStrs w8 ss (.slice g ss.length capg) w20)); have HX20 := Lib.hid (HI8.out.below hB20)
        have HB20 := Lib.hid (HB8.out.trans (hB20.mono HB8.out.size)); clear hB20 hrow
        go_wp2_with fail
        refine (likeTexts_any g a ss.length capg ss.length cap ss ss w20 rfl rfl hzm hzm HG20.out HX20.out).mono ?_; rintro e w' ⟨rfl, n20, rfl⟩
        rw [sameS_self]
        go_wp2_with fail
        go_ret
        exact ⟨rfl, Go.below_drewN HB20.out _⟩
      · go_wp2_with fail
        go_ret
        exact ⟨rfl, HB8.out⟩
      · go_wp2_with fail
        go_ret
        exact ⟨rfl, HB8.out⟩
    · rcases HX.out with ⟨rfl, hxt, hts⟩ | rfl | rfl
      · have HI3 := Lib.hid (fun W (h : MaxAt W) => show Calls Tryd.prog 16 #[.string t] W (SaysNew2 ss 0 W) by have := implReadWords_any t W hts h; rwa [hxt] at this)
        clear HX hxt hts
        go_wp2_with fail
        refine (HI3.out w7 (HM.out.below HB7.out)).mono ?_; rintro e w20 ⟨v, rfl, hN⟩
        obtain ⟨g, capg, rfl, hcg, hB20, hrow⟩ := hN
        have HG20 := Lib.hid (NewStrs.at (⟨g, capg, rfl, hcg, hB20, hrow⟩ : NewStrs w7 ss (.slice g ss.length capg) w20)); have HX20 := Lib.hid (HI7.out.below hB20)
        have HB20 := Lib.hid (HB7.out.trans (hB20.mono HB7.out.size)); clear hB20 hrow
        go_wp2_with fail
        refine (likeTexts_any g a ss.length capg ss.length cap ss ss w20 rfl rfl hzm hzm HG20.out HX20.out).mono ?_; rintro e w' ⟨rfl, n20, rfl⟩
        rw [sameS_self]
        go_wp2_with fail
        go_ret
        exact ⟨rfl, Go.below_drewN HB20.out _⟩
      · go_wp2_with fail
        go_ret
        exact ⟨rfl, HB7.out⟩
      · go_wp2_with fail
        go_ret
        exact ⟨rfl, HB7.out⟩

/-- A start that fits: the heap that the variables' own initialisers leave (and the pinned table, where the row lists one). -/
theorem laid_met (os : Os) : laidMetH Tryd.prog Rows.fnWordsRow.laid ((doorWorldP os).forCall (fun _ _ => 0) ⟨#[], #[.slice none 0 0], []⟩).memory :=
  laidMetH_of_parts3 (fuel := 8) (laidMet_of_run' 8 (by kernel_rfl) (by kernel_rfl)) (by kernel_rfl) (by kernel_rfl)
theorem reads (os : Os) {H : Type} (enc : TypeId × Value → H) : DataW.whole enc Tryd.prog ((doorWorldP os).forCall (fun _ _ => 0) ⟨#[], #[.slice none 0 0], []⟩).memory Tryd.f3.params.toList Rows.fnWordsSpec.vars false (#[.slice none 0 0] : Array Value).toList 8 = some ([.nil], [], []) :=
  by kernel_rfl

set_option maxRecDepth 100000 in
theorem lifted (os : Os) (started : os.Started) (H : Type) (enc : TypeId × Value → H) (F : Stop.Interp) :
    ReturnsInHanded {} Tryd.checked os 3 .any ((OpenSpec.ofChange Rows.fnWordsSpec).preRow enc Tryd.prog Tryd.f3 Rows.fnWordsRow.domain false Rows.fnWordsRow.laid) (((OpenSpec.ofChange Rows.fnWordsSpec).at F).post enc Tryd.prog Tryd.f3 false true false false) := by
  refine returnsInHanded_of_row (C := Tryd.checked) (s := OpenSpec.ofChange Rows.fnWordsSpec) own started (by kernel_rfl) Tryd.func3
    (witness_row_atRef (enc := enc) (C := Tryd.checked) false (doorWorldP os) #[.slice none 0 0] rfl (by kernel_rfl) (by kernel_rfl) (by kernel_rfl)
      (OpenSpec.preRow_of_cond 8 (reads os enc) (by kernel_rfl) (fun k hk => by cases hk) (by kernel_rfl) (laid_met os))) ?_
  intro W base args ds gs before hval0 hW _ _ _ hL hsh _
  have hval : ∀ (j : Nat) t v, Tryd.f3.params[j]? = some t → args[j]? = some v → Value.okWide Tryd.prog W .any base t v := hval0
  have hW' := hW
  obtain ⟨p, q, hA0, hV, rfl, hfz, hnd⟩ := hW
  have hA : DataW.TrodAll enc Tryd.prog W 0 (fun _ => true) true Tryd.f3.params.toList args.toList ds p := hA0
  rw [Tryd.params3] at hA hval
  obtain ⟨v0, vs0, d0, ds0, p0, q0, hargs, rfl, rfl, h0, r0⟩ := trodAll_cons hA
  obtain ⟨rfl, rfl, rfl⟩ := trodAll_nil r0
  obtain rfl : args = #[v0] := by cases args; simp_all
  obtain ⟨rfl, rfl⟩ := trodVars_none hV
  obtain ⟨a0, len0, cap0, rfl⟩ := okWide_slice Tryd.underlying22 (hval 0 22 v0 rfl rfl)
  have k0 := h0
  have lt0 : ∀ x ∈ p0, x.block < W.heap.size := by obtain ⟨m, hm⟩ := k0; exact DataW.trod_lt m _ _ _ hm
  obtain ⟨z0, w0⟩ : ∃ zs, IsRow .u8 W a0 len0 cap0 zs := by
    obtain ⟨fuel, hf⟩ := h0
    rcases open_ints Tryd.underlying22 Tryd.underlying5 (by kernel_rfl) hf with ⟨hcs, _⟩ | ⟨x, l, c, zs, hcs, _, hl, hm, hz, _, hcell, hwz⟩
    · simp [Value.cells] at hcs
      obtain ⟨rfl, rfl, rfl⟩ := hcs
      exact ⟨[], .inl ⟨rfl, rfl, rfl, rfl⟩⟩
    · simp [Value.cells] at hcs
      obtain ⟨rfl, rfl, rfl⟩ := hcs
      exact ⟨zs, .inr ⟨_, rfl, hl, hm, by simpa using hz, hcell, hwz⟩⟩
  clear hA0 hval0
  refine (walk W hL hsh a0 len0 cap0 z0 w0).mono fun e W' ⟨he, bel⟩ => ?_
  subst he
  exact ⟨_, rfl, _, _, _, [], _, [], hW', trodAll_mk1 (shut_bool Tryd.underlying4 _), (trodAll_cons_mk (Below.trod laidOut (by kernel_rfl) (of_decide_eq_true (by kernel_rfl)) k0 bel lt0) trodAll_mk0), rfl, bel.frame _, fun h => by cases h⟩

theorem said : Rows.FnWordsSaid :=
  OpenClaim.holds_of_cond 3 Tryd.f3 rfl rfl rfl rfl rfl rfl rfl ⟨rfl, rfl, rfl, rfl, rfl⟩ rfl rfl rfl rfl rfl (by kernel_rfl) Tryd.func3 (by kernel_rfl)
    (of_decide_eq_true (by kernel_rfl)) (by unfold Func.isWrapper; first | (rw [if_pos (by decide +kernel)]; kernel_rfl) | (rw [if_neg (by decide +kernel)]; exact ⟨rfl, rfl⟩))
    (fun os started H enc _ F => by rw [OpenClaim.pre_eq_preRow]; exact lifted os started H enc F)

/-- The statement: the tied card. -/
theorem proved : Rows.FnWordsCardSaid :=
  Claim7.holds_tied_plain_at .later [] _ _ _ _ said (fun _ h => by cases h) (by kernel_rfl) (fun _ h => by cases h) fnWords_row_tie rfl ⟨rfl, rfl⟩ (by kernel_rfl) rfl
    (fun f fn hf hfn => by
      obtain rfl : f = 3 := Option.some.inj ((show Tryd.prog.funcNamed "loop.example/g01027/laws.FnWords" = some 3 by kernel_rfl).symm.trans hf) |>.symm
      obtain rfl : fn = Tryd.f3 := (Option.some.inj (Tryd.func3.symm.trans hfn)).symm
      exact ⟨by kernel_rfl, fun j t ht => by
        rw [Tryd.params3] at ht
        have hm : t ∈ [22] := by simpa using Array.mem_of_getElem? ht
        have hall : ([22].all fun u => !Tryd.prog.wantsStandIn u) = true := by kernel_rfl
        exact (show Tryd.prog.wantsStandIn t = false by simpa using List.all_eq_true.1 hall t hm)⟩)
    (by kernel_rfl)
end Go.Proofs.YtfadmlgdabamhaaDoor.fnWords
