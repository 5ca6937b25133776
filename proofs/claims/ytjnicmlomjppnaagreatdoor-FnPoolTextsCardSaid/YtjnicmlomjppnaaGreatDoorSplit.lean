/- Contracts: impl.splitParts and spec.l01Split split a text at commas. -/
import Derived.Test.YtjnicmlomjppnaaGreatDoorChecked
import Derived.Test.YtjnicmlomjppnaaGreatDoorBase0
import Derived.Test.YtjnicmlomjppnaaGreatDoorInfo
import Derived.Test.YtjnicmlomjppnaaGreatDoorSpl
import Derived.WalkKit
import Derived.WalkSpells
import Derived.WalkLawsBesides
import Derived.Lib.Hide
import Derived.Deep.OwnRows
import Derived.Outline
namespace Go.Proofs.YtjnicmlomjppnaaGreatDoor
open Go.RowKit Pure3 Pure5

/-- a slice of texts of the call's own: it reads ss; nothing that was there has turned -/
def NewStrs (w : World) (ss : List ByteArray) (v : Value) (w' : World) : Prop :=
  ∃ a cap, v = .slice a ss.length cap ∧ ss.length ≤ cap ∧ Below w.heap.size w w' ∧ (ss = [] ∨ ∃ b f N, a = some ⟨b, 0, none⟩ ∧ w.heap.size ≤ b ∧ ss.length ≤ N ∧ w'.rowIs b 9 N f ∧ ∀ i x, ss[i]? = some x → f i = .string x)
theorem NewStrs.at {w w' : World} {ss : List ByteArray} {a : Option Addr} {cap : Nat} (h : NewStrs w ss (.slice a ss.length cap) w') : StrsAt w' a ss := by
  obtain ⟨a', cap', e, _, hB, h⟩ := h
  cases e
  rcases h with rfl | ⟨b, f, N, rfl, hb, hN, hr, hf⟩
  · exact .inl rfl
  · exact .inr ⟨b, 0, rfl, fun i x hx => by
      have hi := (List.getElem?_eq_some_iff.1 hx).1
      rw [Nat.zero_add, hr.cell (by omega), hf i x hx]⟩
theorem strsAt_of_owns {w : World} {base e n : Nat} {v : Value} {ss : List ByteArray} (h : w.ownsRow base e 1 v n (ss.map Value.string)) : ∃ a cap, v = .slice a n cap ∧ n ≤ cap ∧ StrsAt w a ss := by
  obtain ⟨h1, h2 | ⟨g, cap, cur, hv, hg, hh, hn, hc, hs, hr⟩⟩ := h
  · obtain ⟨rfl, rfl⟩ := h2
    exact ⟨none, 0, rfl, Nat.le_refl _, .inl (by simpa using h1)⟩
  · rw [Nat.mul_one] at hr hs
    refine ⟨_, cap, hv, hn, .inr ⟨g, 0, rfl, fun i x hx => ?_⟩⟩
    have hx' : (ss.map Value.string)[i]? = some (.string x) := by rw [List.getElem?_map, hx]; rfl
    rw [← hr, List.getElem?_take] at hx'
    split at hx'
    · rw [Array.getElem?_toList] at hx'
      simp [World.cell?, hh, hx']
    · cases hx'

/-- a slice of texts that the call has built by append: it reads ss; nothing that was there has turned -/
def OwnedStrs (ss : List ByteArray) (w : World) (e : Ending) (w' : World) : Prop := ∃ v, e = .returned v ∧ w'.ownsRow w.heap.size 9 1 v ss.length (ss.map Value.string) ∧ Below w.heap.size w w'
theorem owns_snoc {w : World} {base e : TypeId} {v : Value} {done : List ByteArray} {x : ByteArray} (h : w.ownsRow base e 1 v (done.length + 1) (done.map Value.string ++ [Value.string x])) :
    w.ownsRow base e 1 v (done ++ [x]).length ((done ++ [x]).map Value.string) := by
  rw [List.length_append, List.map_append]; exact h

set_option maxRecDepth 100000 in
set_option maxHeartbeats 800000 in
theorem specSplit_any (s : ByteArray) (w : World) (hs : s.size ≤ 1048576) :
    Calls Tryz.prog 26 #[.string s, .int .u8 44] w (OwnedStrs (parts s) w) := by
  obtain ⟨i0, hi, hz0, hz1, hz2⟩ := info_parts Tryz.info_str
  go_enter Tryz.func26, Tryz.ntmps26
  go_wp2
  go_loopw [5, 6, 7] (fun v fr i wr => ∃ (done : List ByteArray) (frm k : Nat), fr = .int .i64 frm ∧ i = .int .i64 k ∧ wr.ownsRow w.heap.size 9 1 v done.length (done.map Value.string) ∧ Below w.heap.size w wr ∧ ((k ≤ s.size ∧ Mid s done frm k) ∨ (s.size < k ∧ k ≤ s.size + 1 ∧ done = parts s))) (fun _ _ i _ => s.size + 1 - (intOf i).toNat)
  case atStart => exact ⟨[], 0, 0, rfl, rfl, World.ownsRow_lit _ #[] 0 (Nat.le_refl _) (by decide) rfl, (Below.refl _ _).alloc (Nat.le_refl _) _, .inl ⟨Nat.zero_le _, Mid.start s⟩⟩
  case round =>
    obtain ⟨done, frm, k, rfl, rfl, hown, hB, hm⟩ := hrel
    rcases hm with ⟨hk, hm⟩ | ⟨hk, hk2, rfl⟩
    · have HM := Lib.hid hm; have HB := Lib.hid hB; clear hB
      have hfr : frm ≤ k := hm.1
      have hdl : done.length ≤ s.size := hm.len
      clear hm
      by_cases hlast : k = s.size
      · have HL := Lib.hid hlast
        have hk2 : s.size ≤ k := by omega
        have heq : ((k : Int) == s.size) = true := beq_iff_eq.2 (by omega)
        clear hlast
        go_wp2_with (at_builtin; refine wpList_append_own _ rfl _ _ 41 rfl w.heap.size 9 i0 (.string ⟨#[]⟩) 1 16 Tryz.underlying41 hi hz0 hz1 hz2 rfl (by decide) _ _ _ rfl (hown.alloc _) ⟨wr.heap.size, 0, none⟩ 1 1 [.string (s.extract frm k)] rfl rfl ?c1 ?c2 ?c3 ?c4 ?c5 ?_)
        case c1 => exact cell_one_new _ _ _
        case c2 => intro u hu; simp at hu; subst hu; rfl
        case c3 => unfold maxLen; omega
        case c4 => omega
        case c5 => have := HB.out.size; simp; omega
        intro v' w1 hown' hgrow _
        have HO := Lib.hid (owns_snoc hown')
        have HB1 := Lib.hid ((HB.out.alloc HB.out.size _).grown hgrow (by have := HB.out.size; simp; omega) (fun k hk => (hown.lt k hk).1))
        have HN := Lib.hid (show done ++ [s.extract frm k] = parts s by rw [HL.out]; exact Mid.last (by have := HM.out; rwa [HL.out] at this))
        clear hown hown' hgrow
        go_wp2
        go_roundw
        case rel => exact ⟨done ++ [s.extract frm k], k + 1, k + 1, by go_num, by go_num, HO.out, HB1.out, .inr ⟨by omega, by omega, HN.out⟩⟩
        case measure => simp [intOf]; omega
      · have hlt : k < s.size := by omega
        have hne : ((k : Int) == s.size) = false := beq_eq_false_iff_ne.2 (by omega)
        clear hlast
        by_cases hc : s[k] = 44
        · have hc' : ((s[k].toNat : Int) == 44) = true := by rw [hc]; rfl
          have HC := Lib.hid hc; clear hc
          go_wp2_with (at_builtin; refine wpList_append_own _ rfl _ _ 41 rfl w.heap.size 9 i0 (.string ⟨#[]⟩) 1 16 Tryz.underlying41 hi hz0 hz1 hz2 rfl (by decide) _ _ _ rfl (hown.alloc _) ⟨wr.heap.size, 0, none⟩ 1 1 [.string (s.extract frm k)] rfl rfl ?d1 ?d2 ?d3 ?d4 ?d5 ?_)
          case d1 => exact cell_one_new _ _ _
          case d2 => intro u hu; simp at hu; subst hu; rfl
          case d3 => unfold maxLen; omega
          case d4 => omega
          case d5 => have := HB.out.size; simp; omega
          intro v' w1 hown' hgrow _
          have HO := Lib.hid (owns_snoc hown')
          have HB1 := Lib.hid ((HB.out.alloc HB.out.size _).grown hgrow (by have := HB.out.size; simp; omega) (fun k hk => (hown.lt k hk).1))
          have HN := Lib.hid (HM.out.comma hlt HC.out)
          clear hown hown' hgrow
          go_wp2
          go_roundw
          case rel => exact ⟨done ++ [s.extract frm k], k + 1, k + 1, by go_num, by go_num, HO.out, HB1.out, .inl ⟨by omega, HN.out⟩⟩
          case measure => simp [intOf]; omega
        · have hc' : ((s[k].toNat : Int) == 44) = false := by
            rw [beq_eq_false_iff_ne]; intro e; apply hc; apply UInt8.toNat_inj.1; show s[k].toNat = 44; omega
          have HN := Lib.hid (HM.out.other hlt hc)
          go_wp2
          go_roundw
          case rel => exact ⟨done, frm, k + 1, rfl, by go_num, hown, HB.out, .inl ⟨by omega, HN.out⟩⟩
          case measure => simp [intOf]; omega
    · have HB := Lib.hid hB; have HO := Lib.hid hown; clear hB hown hk2
      go_wp2
      go_ret
      exact ⟨_, rfl, HO.out, HB.out⟩

end Go.Proofs.YtjnicmlomjppnaaGreatDoor
