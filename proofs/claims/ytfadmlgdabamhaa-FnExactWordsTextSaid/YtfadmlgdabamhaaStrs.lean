/- Contracts of the laws' own helpers on slices of texts: toStringS lays a copy, eqStringS compares, szStringS counts. -/
import Derived.Test.YtfadmlgdabamhaaChecked
import Derived.Test.YtfadmlgdabamhaaPure3
import Derived.Test.YtfadmlgdabamhaaInts
import Derived.WalkKit
import Derived.WalkSpells
import Derived.WalkLawsBesides
import Derived.Lib.Hide
import Derived.Deep.OwnRows
import Derived.Deep.QuietTactic
import Derived.BigQuiet
namespace Go.Proofs.Ytfadmlgdabamhaa
open Go.RowKit Pure3

theorem Try.info_str : (Try.prog.info? 9).map (fun i => (i.zero, i.size, i.bytes)) = some (some (.string ⟨#[]⟩), 1, 16) := by kernel_rfl

/-- a new slice that reads zs; nothing that was there has turned -/
def IsCopyS (w : World) (len : Nat) (zs : List ByteArray) (e : Ending) (w' : World) : Prop :=
  ∃ b, e = .returned (.slice (some ⟨b, 0, none⟩) len len) ∧ w.heap.size ≤ b ∧ StrsAt w' (some ⟨b, 0, none⟩) zs ∧ Below w.heap.size w w'

theorem copiedS {w wr : World} {T len : Nat} {f : Nat → Value} {zs : List ByteArray} (hr : wr.rowIs w.heap.size T len f) (hl : zs.length = len) (hf : ∀ i x, i < len → zs[i]? = some x → f i = .string x)
    (hB : Below w.heap.size w wr) : IsCopyS w len zs (.returned (.slice (some ⟨w.heap.size, 0, none⟩) len len)) wr :=
  ⟨_, rfl, Nat.le_refl _, .inr ⟨_, _, rfl, fun i x hx => by
    have hi : i < len := by rw [← hl]; exact (List.getElem?_eq_some_iff.1 hx).1
    rw [Nat.zero_add, hr.cell hi, hf i x hi hx]⟩, hB⟩

theorem copyS_step {zs : List ByteArray} {k : Nat} {x : ByteArray} {f : Nat → Value} (hf : ∀ i y, i < k → zs[i]? = some y → f i = .string y) (hx : zs[k]? = some x) :
    ∀ i y, i < k + 1 → zs[i]? = some y → (fun j => if j = k then Value.string x else f j) i = .string y := by
  intro i y hi hy
  by_cases e : i = k
  · subst e; rw [hx] at hy; cases hy; simp
  · simp only [if_neg e]; exact hf i y (by omega) hy

set_option maxHeartbeats 400000 in
theorem toStringS_any (a : Option Addr) (len cap : Nat) (zs : List ByteArray) (w : World) (hl : zs.length = len) (hm : len ≤ 1048576) (h : StrsAt w a zs) :
    Calls Try.prog 16 #[.slice a len cap] w (IsCopyS w len zs) := by
  have HL := Lib.hid hl; clear hl
  have HI := Lib.hid h; clear h
  have hmk := run_make_row' (P := Try.prog) 30 9 (.string ⟨#[]⟩) 16 Try.underlying30 Try.info_str rfl .i64 .i64 len (by omega) (by omega)
  go_enter Try.func16, Try.ntmps16
  go_wp2
  go_loopw [4] (fun i wr => ∃ k : Nat, k ≤ len ∧ i = .int .i64 k ∧ Below w.heap.size w wr ∧ ∃ f, wr.rowIs w.heap.size 9 len f ∧ ∀ i x, i < k → zs[i]? = some x → f i = .string x) (fun i _ => len - (intOf i).toNat)
  case atStart => exact ⟨0, Nat.zero_le _, rfl, (Below.refl _ _).alloc (Nat.le_refl _) _, _, World.rowIs_made _ _ _ _, fun i x hi => by omega⟩
  case round =>
    obtain ⟨k, hk, rfl, hB, f, hr, hf⟩ := hrel
    have HB := Lib.hid hB; have HR := Lib.hid hr; have HF := Lib.hid hf; clear hB hr hf
    by_cases hlt : k < len
    · obtain ⟨b, off, x, ha, hc, ht, hx⟩ := (HI.out.below HB.out).at HL.out hlt
      have HX := Lib.hid hx; clear hx ht
      have hc2 := HR.out.cell hlt
      have hf2 := HR.out.frozen k
      subst ha
      go_wp2
      go_roundw
      case rel => exact ⟨k + 1, by omega, by go_num, HB.out.setCell (Nat.le_refl _) _, _, HR.out.set _ _, copyS_step HF.out HX.out⟩
      case measure => simp [intOf]; omega
    · go_wp2
      go_ret
      exact copiedS HR.out HL.out (fun i x hi hx => HF.out i x (by omega) hx) HB.out

set_option maxHeartbeats 400000 in
theorem eqStringS_any (a a' : Option Addr) (len cap len' cap' : Nat) (xs ys : List ByteArray) (w : World) (hl : xs.length = len) (hl' : ys.length = len') (hm : len ≤ maxLen) (hm' : len' ≤ maxLen) (h : StrsAt w a xs) (h' : StrsAt w a' ys) :
    Calls Try.prog 18 #[.slice a len cap, .slice a' len' cap'] w (SaysB (sameS xs ys) w) := by
  unfold maxLen at hm hm'
  by_cases hne : len = len'
  · subst hne
    have HL := Lib.hid hl; have HL' := Lib.hid hl'; have HI := Lib.hid h; have HI' := Lib.hid h'; clear hl hl' h h'
    go_enter Try.func18, Try.ntmps18
    go_wp2
    go_loopw [5] (fun i wr => ∃ k n : Nat, k ≤ len ∧ i = .int .i64 k ∧ wr = w.drewN n ∧ xs.take k = ys.take k) (fun i _ => len - (intOf i).toNat)
    case atStart => exact ⟨0, 0, Nat.zero_le _, rfl, rfl, rfl⟩
    case round =>
      obtain ⟨k, n, hk, rfl, rfl, ht⟩ := hrel
      have HT := Lib.hid ht; clear ht
      by_cases hlt : k < len
      · obtain ⟨b, off, x, ha, hc, ht, hx⟩ := HI.out.at HL.out hlt
        obtain ⟨b', off', y, ha', hc', ht', hy⟩ := HI'.out.at HL'.out hlt
        subst ha; subst ha'
        by_cases hxy : x = y
        · subst hxy
          have HN := Lib.hid (show xs.take (k+1) = ys.take (k+1) by rw [ht, ht', HT.out]); clear ht ht' hx hy
          go_wp2
          go_quiet (fail)
          go_wp2
          go_roundw
          case rel => exact ⟨k + 1, _, by omega, by go_num, rfl, HN.out⟩
          case measure => simp [intOf]; omega
        · have HN := Lib.hid (sameS_at hx hy hxy); clear ht ht' hx hy
          have hxy' := text_ne hxy
          clear hxy
          go_wp2
          go_quiet (fail)
          go_wp2
          go_ret
          exact ⟨ret_bool' HN.out.symm, _, drewN_add _ _ _⟩
      · have HN := Lib.hid (sameS_end HT.out (by rw [HL.out]; omega) (by rw [HL'.out]; omega))
        go_wp2
        go_ret
        exact ⟨ret_bool' HN.out.symm, _, rfl⟩
  · have HN := Lib.hid (sameS_len (xs := xs) (ys := ys) (by rw [hl, hl']; exact hne))
    have hne' : ((len : Int) != len') = true := by rw [bne_iff_ne]; omega
    clear hl hl' h h' hne
    go_enter Try.func18, Try.ntmps18
    go_wp2
    go_ret
    exact ⟨ret_bool' HN.out.symm, 0, rfl⟩


set_option maxHeartbeats 400000 in
theorem szStringS_any (a : Option Addr) (len cap : Nat) (ss : List ByteArray) (n : Nat) (w : World) (hl : ss.length = len) (hm : len ≤ maxLen) (hn : n ≤ 1048576) (h : StrsAt w a ss) (hsz : ∀ x ∈ ss, x.size ≤ maxLen) :
    Calls Try.prog 14 #[.slice a len cap, .int .i64 n] w fun e w' => e = .returned (.int .i64 (szLeft ss n)) ∧ w = w' := by
  unfold maxLen at hm
  have HL := Lib.hid hl; have HI := Lib.hid h; have HS := Lib.hid hsz; clear hl h hsz
  by_cases hb : n < len
  · have HN := Lib.hid (szLeft_no (ss := ss) (n := n) (by have := strTot_len ss; have := HL.out; omega))
    go_enter Try.func14, Try.ntmps14
    go_wp2
    go_ret
    exact ⟨ret_i64 HN.out.symm, rfl⟩
  · have hb' : len ≤ n := by omega
    clear hb
    go_enter Try.func14, Try.ntmps14
    go_wp2
    go_loop [1, 5] (fun t i => ∃ k m : Nat, k ≤ len ∧ i = .int .i64 k ∧ t = .int .i64 m ∧ m + (len + szs (ss.take k)) = n) (fun _ i => len - (intOf i).toNat)
    case atStart => exact ⟨0, n - len, Nat.zero_le _, rfl, by go_num, by simp [szs]; omega⟩
    case round =>
      obtain ⟨k, m, hk, rfl, rfl, ht⟩ := hrel
      have HT := Lib.hid ht
      have hmn : m ≤ n := by omega
      clear ht
      by_cases hlt : k < len
      · obtain ⟨b, off, x, ha, hc, ht, hx⟩ := HI.out.at HL.out hlt
        have hxs : x.size ≤ 9223372036854775807 := HS.out x (List.mem_of_getElem? hx)
        have HK := Lib.hid (show szs (ss.take (k+1)) = szs (ss.take k) + x.size by rw [ht, szs_snoc])
        have HK2 := Lib.hid (szs_take ss (k+1)); clear hx ht
        subst ha
        by_cases hmx : x.size ≤ m
        · go_wp2
          go_round
          case rel => exact ⟨k + 1, m - x.size, by omega, by go_num, by go_num, by have := HT.out; have := HK.out; omega⟩
          case measure => simp [intOf]; omega
        · have HN := Lib.hid (szLeft_no (ss := ss) (n := n) (by have := strTot_eq ss; have := HL.out; have := HT.out; have := HK.out; have := HK2.out; omega))
          go_wp2
          go_ret
          exact ⟨ret_i64 HN.out.symm, rfl⟩
      · have HN := Lib.hid (show szLeft ss n = m from szLeft_ok (by have h1 := HT.out; have h2 := HL.out; rw [List.take_of_length_le (by omega)] at h1; rw [strTot_eq]; omega))
        go_wp2
        go_ret
        exact ⟨ret_i64 HN.out.symm, rfl⟩

/-- from the row that the frame opens to the reading that the contracts take -/
theorem strs_of_row {w : World} {a : Option Addr} {len cap : Nat} {ss : List ByteArray}
    (h : (a = none ∧ len = 0 ∧ cap = 0 ∧ ss = []) ∨ ∃ x, a = some x ∧ len ≤ cap ∧ cap ≤ maxLen ∧ ss.length = cap ∧ (∀ i, i < ss.length → w.cell? (x.add i) = some (.string (ss.getD i ByteArray.empty))) ∧ ∀ s ∈ ss, s.size ≤ maxLen) :
    (ss.take len).length = len ∧ len ≤ cap ∧ len ≤ maxLen ∧ StrsAt w a (ss.take len) ∧ ∀ s ∈ ss.take len, s.size ≤ maxLen := by
  rcases h with ⟨rfl, rfl, rfl, rfl⟩ | ⟨x, rfl, hl, hm, hz, hc, hs⟩
  · exact ⟨rfl, Nat.le_refl _, by unfold maxLen; omega, .inl rfl, fun s h => by simp at h⟩
  · refine ⟨by rw [List.length_take]; omega, hl, by omega, ?_, fun s h => hs s (List.mem_of_mem_take h)⟩
    by_cases h0 : len = 0
    · exact .inl (by rw [h0]; rfl)
    · obtain ⟨b, off, spot⟩ := x
      have hspot : spot = none := by simpa [Addr.add] using World.cell?_spot (hc 0 (by omega))
      subst hspot
      refine .inr ⟨b, off, rfl, fun i x hx => ?_⟩
      obtain ⟨hi, hx'⟩ := List.getElem?_eq_some_iff.1 hx
      have hi' : i < ss.length := by rw [List.length_take] at hi; omega
      have := hc i hi'
      rw [List.getElem_take] at hx'
      rw [List.getD_eq_getElem?_getD, List.getElem?_eq_getElem hi', Option.getD_some, hx'] at this
      by_cases hi0 : i = 0
      · subst hi0; simpa [Addr.add] using this
      · simpa [Addr.add, hi0] using this

end Go.Proofs.Ytfadmlgdabamhaa
