/- Contract of the laws' own helper likeTerms (at two lists that read the same); facts for the laws over draws of chapter 7. -/
import Derived.Test.YtblbmmajobefiaaChecked
import Derived.Test.YtblbmmajobefiaaBase
import Derived.Test.YtblbmmajobefiaaTermA
import Derived.Test.YtblbmmajobefiaaTermB
import Derived.Test.YtblbmmajobefiaaPure70
import Derived.Test.YtblbmmajobefiaaPure71
import Derived.WalkKit
import Derived.WalkSpells
import Derived.WalkLawsBesides
import Derived.Lib.Hide
import Derived.Deep.QuietTactic
import Derived.BigQuiet
import Derived.Outline
namespace Go.Proofs.Ytblbmmajobefiaa
open Go.RowKit Pure1 Pure2 Pure20 Pure40

set_option maxRecDepth 100000 in
set_option maxHeartbeats 2000000 in
/-- two slices that read the same terms are told to be the same -/
theorem likeTerms_same (a a' : Option Addr) (len cap cap' : Nat) (ts : List Term) (w : World) (hl : ts.length = len) (hm : len ≤ 1048576) (h : Term.ListAt w a ts) (h' : Term.ListAt w a' ts) :
    Calls Try.prog 26 #[.slice a len cap, .slice a' len cap'] w (fun e w' => e = .returned (.bool true) ∧ Below w.heap.size w w') := by
  have HL := Lib.hid hl; have HI := Lib.hid h; have HI' := Lib.hid h'; clear hl h h'
  go_enter Try.func26, Try.ntmps26
  go_wp2
  go_loopw [5] (fun i wr => ∃ k n : Nat, k ≤ len ∧ i = .int .i64 k ∧ wr = w.drewN n) (fun i _ => len - (intOf i).toNat)
  case atStart => exact ⟨0, 0, Nat.zero_le _, rfl, rfl⟩
  case round =>
    obtain ⟨k, n, hk, rfl, rfl⟩ := hrel
    by_cases hlt : k < len
    · obtain ⟨b, off, p, rfl, hc, hp⟩ := HI.out.at HL.out hlt
      obtain ⟨b', off', p', rfl, hc', hp'⟩ := HI'.out.at HL.out hlt
      obtain rfl : p = p' := Option.some.inj (hp.symm.trans hp')
      obtain ⟨c0, c1, c2⟩ := hc
      obtain ⟨d0, d1, d2⟩ := hc'
      clear hp hp'
      go_wp2
      go_quiet (fail)
      go_wp2
      go_roundw
      case rel => exact ⟨k + 1, _, by omega, by go_num, rfl⟩
      case measure => simp [intOf]; omega
    · go_wp2
      go_ret
      exact ⟨rfl, Go.below_drewN (Below.refl _ _) _⟩

theorem codeT_ok {ts : List Term} {n d : Int} (h : areT ts = true) (h1 : 1 ≤ n ∧ n ≤ 1000000) (h2 : 0 ≤ d ∧ d ≤ 20000) : codeT ts n d = 0 := by
  unfold codeT
  rw [if_pos h, if_pos ⟨inR_iff.2 h1, (isDay_iff d).2 h2⟩]
theorem rested_at {ts : List Term} {n d : Int} {r : Bool} (h : areT ts = true) (h1 : 1 ≤ n ∧ n ≤ 1000000) (h2 : 0 ≤ d ∧ d ≤ 20000) (hr : restedL ts n d = r) : restedR ts n d = (r, 0) := by
  unfold restedR
  rw [if_pos (codeT_ok h h1 h2), hr]
theorem days_at {ts : List Term} {n : Int} (h : areT ts = true) (h1 : 1 ≤ n ∧ n ≤ 1000000) : daysR ts n = (daysL ts n, 0) := by
  unfold daysR
  rw [if_pos (codeT_ok h h1 ⟨by omega, by omega⟩)]
/-- what the first rested day says -/
theorem from_facts {ts : List Term} {n d f k : Int} (h : restFromR ts n d = (f, k)) : k ≠ 0 ∨ (k = 0 ∧ (0 ≤ d ∧ d ≤ f ∧ f ≤ 20000) ∧ restedR ts n f = (true, 0) ∧ (f ≠ d → restedR ts n (f - 1) = (false, 0))) := by
  unfold restFromR at h
  rcases codeT_cases ts n d with ⟨hc, hA, hn, hd⟩ | hc | hc
  · rw [if_pos hc] at h
    rcases fromL_cases ts n d with ⟨f', hf, e⟩ | e
    · rw [e] at h
      cases h
      obtain ⟨h1, h2, h3, h4⟩ := hf
      exact .inr ⟨rfl, ⟨hd.1, h1, h2⟩, rested_at hA hn ⟨by omega, h2⟩ h3, fun hne => rested_at hA hn ⟨by omega, by omega⟩ (h4 _ (by omega) (by omega))⟩
    · rw [e] at h; cases h; exact .inl (by decide)
  · rw [if_neg (by rw [hc]; decide)] at h; cases h; exact .inl (by rw [hc]; decide)
  · rw [if_neg (by rw [hc]; decide)] at h; cases h; exact .inl (by rw [hc]; decide)
/-- what a further term says -/
theorem add_facts {ts ys : List Term} {c : Term} {k : Int} (h : addR7 ts c = (ys, k)) : k ≠ 0 ∨ (k = 0 ∧ ∃ p, (0 ≤ p ∧ p ≤ 500000) ∧ ((1 ≤ c.num ∧ c.num ≤ 1000000) ∧ (0 ≤ c.frm ∧ c.frm ≤ 20000) ∧ (c.frm ≤ c.to ∧ c.to ≤ 20000)) ∧ daysR ts c.num = (p, 0) ∧ daysR ys c.num = (p + c.to - c.frm + 1, 0)) := by
  unfold addR7 at h
  by_cases h1 : areT ts = true
  · rw [if_pos h1] at h
    by_cases h2 : areT (ts ++ [c]) = true
    · rw [if_pos h2] at h
      cases h
      have hc := areT_at h2 (i := ts.length) (a := c) (by simp)
      have hbd := daysTo_bd h1 c.num ts.length (Nat.le_refl _)
      have hl := areT_len h1
      refine .inr ⟨rfl, daysL ts c.num, ⟨hbd.1, ?_⟩, hc, days_at h1 hc.1, ?_⟩
      · have : daysL ts c.num = daysTo ts c.num ts.length := rfl
        omega
      · rw [days_at h2 hc.1]
        have hs : daysL (ts ++ [c]) c.num = daysL ts c.num + (c.to - c.frm + 1) := by
          unfold daysL daysTo
          rw [List.take_length, List.take_length, List.map_append, lsum_append]
          simp [lsum, days1]
        rw [hs]
        have : daysL ts c.num + (c.to - c.frm + 1) = daysL ts c.num + c.to - c.frm + 1 := by omega
        rw [this]
    · rw [if_neg h2] at h; cases h; exact .inl (by decide)
  · rw [if_neg h1] at h; cases h; exact .inl (by decide)
/-- what the busiest day says -/
theorem busy_facts {ts : List Term} {d m k : Int} (h : busyR ts = ((d, m), k)) : k ≠ 0 ∨ (k = 0 ∧ areT ts = true ∧ (servR ts d).2 = 0 ∧ ((servR ts d).1.length : Int) = m ∧ ∀ (i : Nat) c, ts[i]? = some c → (servR ts c.to).2 = 0 ∧ ((servR ts c.to).1.length : Int) ≤ m) := by
  unfold busyR at h
  rcases codeT_cases ts 1 0 with ⟨hc, hA, _, _⟩ | hc | hc
  · rw [if_pos hc] at h
    by_cases h0 : ts.length = 0
    · rw [if_pos h0] at h; cases h; exact .inl (by decide)
    · rw [if_neg h0] at h
      have hdm : busyL ts = (d, m) := congrArg Prod.fst h
      have hk0 : (0 : Int) = k := congrArg Prod.snd h
      subst hk0
      clear h
      -- the busiest day is one
      have hex : ∃ d m : Int, Busiest ts d m := by
        have key : ∀ k, k ≤ ts.length → ∃ d m, BusyTo ts k d m := by
          intro k
          induction k with
          | zero => intro _; exact ⟨0, 0, busyTo_zero ts⟩
          | succ k ih =>
            intro hk
            obtain ⟨d, m, hb⟩ := ih (by omega)
            have hcx : ts[k]? = some (ts[k]'(by omega)) := List.getElem?_eq_getElem (by omega)
            by_cases h1 : m < ((servL ts (ts[k]'(by omega)).frm).length : Int) ∨ (((servL ts (ts[k]'(by omega)).frm).length : Int) = m ∧ (ts[k]'(by omega)).frm < d)
            · exact ⟨_, _, busyTo_take hA hb hcx h1⟩
            · exact ⟨d, m, busyTo_leave hA hb hcx (fun h => h1 (.inl h)) (fun h => h1 (.inr h))⟩
        obtain ⟨d, m, hb⟩ := key ts.length (Nat.le_refl _)
        exact ⟨d, m, busyTo_end hA hb (by omega)⟩
      obtain ⟨d', m', hbz⟩ := hex
      have he : busyL ts = (d', m') := busyL_eq hbz
      obtain ⟨rfl, rfl⟩ := Prod.mk.inj (hdm.symm.trans he)
      obtain ⟨b1, b2, b3, b4⟩ := hbz
      have serv : ∀ x : Int, 0 ≤ x ∧ x ≤ 20000 → servR ts x = (servL ts x, 0) := fun x hx => by
        unfold servR; rw [if_pos (codeT_ok hA ⟨by omega, by omega⟩ hx)]
      refine .inr ⟨rfl, hA, by rw [serv _ b2], by rw [serv _ b2]; exact b1, fun i c hcx => ?_⟩
      have hct := areT_at hA hcx
      rw [serv _ ⟨by omega, by omega⟩]
      exact ⟨rfl, b3 _ (by omega) (by omega)⟩
  · rw [if_neg (by rw [hc]; decide)] at h; cases h; exact .inl (by rw [hc]; decide)
  · rw [if_neg (by rw [hc]; decide)] at h; cases h; exact .inl (by rw [hc]; decide)
/-- what those who have served for too long say -/
theorem over_facts {ts : List Term} {xs : List Int} {k : Int} (h : overR ts = (xs, k)) : k ≠ 0 ∨ (k = 0 ∧ ∀ (i : Nat) x, xs[i]? = some x → (daysR ts x).2 = 0 ∧ 60 < (daysR ts x).1) := by
  unfold overR at h
  rcases codeT_cases ts 1 0 with ⟨hc, hA, _, _⟩ | hc | hc
  · rw [if_pos hc] at h
    cases h
    refine .inr ⟨rfl, fun i x hx => ?_⟩
    have hm : x ∈ overL ts := List.mem_of_getElem? hx
    unfold overL at hm
    rw [numsTo_mem] at hm
    obtain ⟨j, c, _, hcx, hp, rfl⟩ := hm
    have hct := areT_at hA hcx
    rw [days_at hA hct.1]
    exact ⟨rfl, of_decide_eq_true hp⟩
  · rw [if_neg (by rw [hc]; decide)] at h; cases h; exact .inl (by rw [hc]; decide)
  · rw [if_neg (by rw [hc]; decide)] at h; cases h; exact .inl (by rw [hc]; decide)
end Go.Proofs.Ytblbmmajobefiaa
