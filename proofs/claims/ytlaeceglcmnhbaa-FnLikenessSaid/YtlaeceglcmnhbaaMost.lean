/- Contracts: impl.likenessesTo, impl.MostAlike, spec.MostAlike. -/
import Derived.Test.YtlaeceglcmnhbaaChecked
import Derived.Test.YtlaeceglcmnhbaaBase
import Derived.Test.YtlaeceglcmnhbaaPure41
import Derived.Test.YtlaeceglcmnhbaaArePers
import Derived.Test.YtlaeceglcmnhbaaLike
import Derived.Test.YtlaeceglcmnhbaaAns4
import Derived.Test.YtlaeceglcmnhbaaMapK
import Derived.WalkKit
import Derived.WalkSpells
import Derived.WalkLawsBesides
import Derived.Lib.Hide
import Derived.Lib.QuietBelow
import Derived.IntWalk
import Derived.Deep.QuietTactic
import Derived.BigQuiet
import Derived.Deep.RegionWith
import Derived.Outline
namespace Go.Proofs.Ytlaeceglcmnhbaa
open Go.RowKit Go.Sort Pure1 Pure40 Pure41

/-- a map of the likenesses to p is returned -/
def SaysMap (p : Pers) (ps : List Pers) (w : World) (e : Ending) (w' : World) : Prop := ∃ B, e = .returned (.map (some B)) ∧ w.heap.size ≤ B ∧ MapLike w' B p ps ps.length ∧ Below w.heap.size w w'

theorem below_drew {w w' : World} (h : Below w.drew.heap.size w.drew w') : Below w.heap.size w w' := ⟨h.os, h.tape, h.output, h.size, h.block⟩

theorem AtB_grown {w w' : World} {b B : Nat} {p : Pers} (h : AtB w b p) (hg : w.grownBy w' (some B)) (hne : b ≠ B) : AtB w' b p := by
  have hn : ∀ o, some (⟨b, o, none⟩ : Addr).block ≠ some B := fun o e => hne (Option.some.inj e)
  exact ⟨hg.cell h.1 (hn _), hg.cell h.2.1 (hn _), hg.cell h.2.2.1 (hn _), hg.cell h.2.2.2.1 (hn _), hg.cell h.2.2.2.2 (hn _)⟩

/-- what a round of the program leaves -/
theorem like_round {w wq w2 w3 : World} {p : Pers} (hB : Below w.heap.size w wq) (hC : AtB wq w.heap.size p) (h2 : Below wq.heap.size wq w2) (h3 : w2.grownBy w3 (some (w.heap.size + 1))) :
    AtB w3 w.heap.size p ∧ Below w.heap.size w w3 :=
  ⟨AtB_grown (hC.below h2) h3 (by omega), (hB.trans (h2.mono hB.size)).grown h3 (by have := hB.size; have := h2.size; omega) (fun j hj => by cases hj; omega)⟩

set_option maxRecDepth 100000 in
set_option maxHeartbeats 4000000 in
theorem implLikenesses_any (n0 : Int) (f0 l0 : ByteArray) (b0 z0 : Int) (a : Option Addr) (len cap : Nat) (ps : List Pers) (w : World) (hp0 : isPers ⟨n0, f0, l0, b0, z0⟩ = true) (hl : ps.length = len) (hm : len ≤ maxLen) (hI : PersAt w a ps)
    (hall : ∀ (i : Nat) (q : Pers), ps[i]? = some q → isPers q = true) :
    Calls Try.prog 37 #[.agg #[.int .i64 n0, .string f0, .string l0, .int .i64 b0, .int .i64 z0], .slice a len cap] w (SaysMap ⟨n0, f0, l0, b0, z0⟩ ps w) := by
  have hmx := hm
  unfold maxLen at hm
  have HL := Lib.hid hl; have HI := Lib.hid hI; have HG := Lib.hid hall
  clear hl hI hall
  have hmk := run_makeMapN len
  have hcb := atB_box w n0 f0 l0 b0 z0 25
  have hB0 : Below w.heap.size w ((w.alloc (.cells #[.int .i64 n0, .string f0, .string l0, .int .i64 b0, .int .i64 z0] 25)).alloc (.map #[] 0)) := (boxed _ _).alloc (by simp) _
  have HC0 := Lib.hid (hcb.below (boxed _ (.map #[] 0)))
  have HM0 := Lib.hid (MapLike.made (w.alloc (.cells #[.int .i64 n0, .string f0, .string l0, .int .i64 b0, .int .i64 z0] 25)) ⟨n0, f0, l0, b0, z0⟩ ps)
  have hx : (w.alloc (.cells #[.int .i64 n0, .string f0, .string l0, .int .i64 b0, .int .i64 z0] 25)).heap.size = w.heap.size + 1 := by simp
  rw [hx] at HM0
  have HB0 := Lib.hid hB0
  clear hcb hB0 hx
  go_enter Try.func37, Try.ntmps37
  go_wp2
  go_loopw [13] (fun i wr => ∃ k : Nat, k ≤ len ∧ i = .int .i64 k ∧ MapLike wr (w.heap.size + 1) ⟨n0, f0, l0, b0, z0⟩ ps k ∧ AtB wr w.heap.size ⟨n0, f0, l0, b0, z0⟩ ∧ Below w.heap.size w wr) (fun i _ => len - (intOf i).toNat)
  case atStart => exact ⟨0, Nat.zero_le _, rfl, HM0.out, HC0.out, HB0.out⟩
  case round =>
    obtain ⟨k, hk, rfl, hM, hC, hB⟩ := hrel
    have HM := Lib.hid hM; have HC := Lib.hid hC; have HB := Lib.hid hB; clear hM hC hB hmk
    by_cases hlt : k < len
    · obtain ⟨b, off, q, rfl, hc, hq⟩ := (HI.out.below HB.out).at HL.out hlt
      obtain ⟨c0, c1, c2, c3, c4⟩ := hc
      have HQ := Lib.hid hq
      have hiq := HG.out k q hq
      go_wp2_with fail
      have hcq := atB_box wr q.num q.fst q.lst q.born q.zone 25
      have hw1 := boxed wr (.cells #[.int .i64 q.num, .string q.fst, .string q.lst, .int .i64 q.born, .int .i64 q.zone] 25)
      have hBq := HB.out.trans (hw1.mono HB.out.size)
      have hMq := HM.out.below hw1
      have hCq := HC.out.below hw1
      have hne : wr.heap.size ≠ w.heap.size + 1 := by have := HM.out.lt; omega
      have hlt1 : w.heap.size < wr.heap.size := by have := HM.out.lt; omega
      generalize wr.alloc (.cells #[.int .i64 q.num, .string q.fst, .string q.lst, .int .i64 q.born, .int .i64 q.zone] 25) = wq at hcq hBq hMq hCq ⊢
      clear hw1
      generalize wr.heap.size = bq at hcq hne hlt1 ⊢
      have HCQ := Lib.hid hcq; have HBQ := Lib.hid hBq; have HMQ := Lib.hid hMq; have HCP := Lib.hid hCq
      clear c0 c1 c2 c3 c4 hq hBq hMq
      obtain ⟨k0, k1, k2, k3, k4⟩ := hcq
      obtain ⟨p0, p1, p2, p3, p4⟩ := hCq
      have HLk := Lib.hid (implLike_any q.num q.fst q.lst q.born q.zone n0 f0 l0 b0 z0 wq.drew hiq hp0)
      have HS := Lib.hid (fun (w2 : World) (hB : Below wq.heap.size wq w2) => (HMQ.out.below hB).store (q := q) (by omega) (fun i r hr => good_of (HG.out i r hr)) HQ.out)
      have heta : likeP ⟨q.num, q.fst, q.lst, q.born, q.zone⟩ ⟨n0, f0, l0, b0, z0⟩ = likeP q ⟨n0, f0, l0, b0, z0⟩ := rfl
      rw [heta] at HLk
      clear heta
      generalize likeP q ⟨n0, f0, l0, b0, z0⟩ = v at HLk HS
      clear hiq
      go_region_with (go_at_call 31; refine HLk.out.mono ?_; rintro e w2 ⟨rfl, hB⟩; have hB2 := below_drew hB; obtain ⟨w3, hrun, hM3, hg3⟩ := HS.out w2 hB2; obtain ⟨k0, k1, k2, k3, k4⟩ := HCQ.out.below hB2; have HM3 := Lib.hid hM3; have HG3 := Lib.hid hg3; have HB2 := Lib.hid hB2; clear hB hB2 hM3 hg3)
      all_goals
        have HX := Lib.hid (like_round HBQ.out HCP.out HB2.out HG3.out)
        clear hrun k0 k1 k2 k3 k4 p0 p1 p2 p3 p4
        go_wp2_with fail
        go_roundw
        case rel => exact ⟨k + 1, by omega, by go_num, HM3.out, HX.out.1, HX.out.2⟩
        case measure => simp [intOf]; omega
    · obtain rfl : k = len := by omega
      go_wp2
      go_ret
      exact ⟨_, rfl, by omega, by rw [HL.out]; exact HM.out, HB.out⟩

end Go.Proofs.Ytlaeceglcmnhbaa
