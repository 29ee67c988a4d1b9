/- What the loop of AuditKeeps keeps: Write of a valid record at whatever valid log. -/
import Derived.Test.YtbbobffedgcbhaaDoorAuL
import Derived.Test.YtbbobffedgcbhaaDoorAuWg
namespace Go.Proofs.YtbbobffedgcbhaaDoor
open Go.RowKit
set_option linter.unusedVariables false
theorem apA_ge {n m : Nat} {room arm : Int} {dead : Bool} (h : -1 ≤ arm) : -1 ≤ Dk.apA n m room dead arm := by
  unfold Dk.apA Dk.pwA
  split
  · exact h
  · split <;> omega
/-- What was written, what failed, and what of it lies on the disk. -/
structure KInv (room : Int) (rs : List Rec) (i : Nat) (s p hash : LB) (dead stop : Bool) (arm : Int) (q : Nat) (done : List Rec) (failed : Int) : Prop where
  hok : okL ⟨s, p, room, dead, arm, (q : Int), hash, stop⟩ = true
  harm : arm ≤ 9223372036854775807
  hsc : (scanB s).1 = done
  hen : (scanB s).2.2 = s.length
  hq : done.length = q
  hqi : q ≤ i
  hstop : stop = decide (0 ≤ failed)
  hfl : -1 ≤ failed ∧ failed < i
  hpe : p = [] ∨ ∃ (f : Nat) (r : Rec), failed = (f : Int) ∧ rs[f]? = some r ∧ validP { r with seq := (q : Int) } = true ∧ p = entP hash { r with seq := (q : Int) }
def KStep (room : Int) (rs : List Rec) (i : Nat) (q : Nat) (done : List Rec) (failed : Int) (r : Rec) (code : Int) (s p hash : LB) (dead stop : Bool) (arm : Int) (q2 : Nat) : Prop :=
  (code = 0 ∧ failed = -1 ∧ stop = false ∧ q2 = q + 1 ∧ KInv room rs (i + 1) s p hash dead stop arm q2 (done ++ [{ r with seq := (q : Int) }]) (-1)) ∨
  (code = 42 ∧ failed = -1 ∧ stop = true ∧ q2 = q ∧ KInv room rs (i + 1) s p hash dead stop arm q2 done (i : Int)) ∨
  (code = 42 ∧ 0 ≤ failed ∧ stop = true ∧ q2 = q ∧ KInv room rs (i + 1) s p hash dead stop arm q2 done failed)
def KEnd (room : Int) (rs : List Rec) (i : Nat) (q : Nat) (done : List Rec) (failed : Int) (r : Rec) (w : World) (e : Ending) (w' : World) : Prop :=
  ∃ (s p hash : LB) (dead2 stop2 : Bool) (arm2 code : Int) (q2 : Nat) (A2 : Option Addr) (n2 c2 : Nat) (B2 : Option Addr) (m2 k2 : Nat) (H2 : Option Addr) (hc2 : Nat), e = .returned (.tuple #[.agg #[.slice A2 n2 c2, .slice B2 m2 k2, .int .i64 room, .bool dead2, .int .i64 arm2, .int .i64 (q2 : Int), .slice H2 32 hc2, .bool stop2], .int .i64 code]) ∧ LogIn w' ⟨s, p, room, dead2, arm2, (q2 : Int), hash, stop2⟩ A2 n2 c2 B2 m2 k2 H2 32 hc2 ∧ Below w.heap.size w w' ∧ (code = 0 → Fr w.heap.size A2 ∧ Fr w.heap.size B2 ∧ Fr w.heap.size H2) ∧ KStep room rs i q done failed r code s p hash dead2 stop2 arm2 q2
theorem keeps_start (rs : List Rec) {room arm : Int} (h1 : 0 ≤ room) (h2 : room ≤ 8000) (h3 : -1 ≤ arm) (h4 : arm ≤ 9223372036854775807) : KInv room rs 0 [] [] zero32 false false arm 0 [] (-1) := by
  have h := opP_ok [] (room := room) (arm := arm) (by simpa using h1) (by omega) h3
  unfold opP at h
  rw [scan_nil] at h
  exact ⟨h, h4, by rw [scan_nil], by rw [scan_nil]; rfl, rfl, Nat.le_refl _, rfl, ⟨by omega, by omega⟩, .inl rfl⟩
/-- What Recover finds. -/
theorem keeps_end {room : Int} {rs : List Rec} {i : Nat} {s p hash : LB} {dead stop : Bool} {arm : Int} {q : Nat} {done : List Rec} {failed : Int} (h : KInv room rs i s p hash dead stop arm q done failed) (j : Nat) :
    (scanB (s ++ p.take j)).1 = done ∨ ∃ (f : Nat) (r : Rec), failed = (f : Int) ∧ rs[f]? = some r ∧ (scanB (s ++ p.take j)).1 = done ++ [{ r with seq := (q : Int) }] := by
  rcases h.hpe with hp | ⟨f, r, h1, h2, h3, h4⟩
  · left
    rw [hp, List.take_nil, List.append_nil, h.hsc]
  · have hh : (scanB s).2.1 = hash := (okL_split h.hok).2.2.1
    rcases scan_crash hh h.hen h3 (by rw [h.hsc, h.hq]) j with e | e
    · left; rw [h4, e, h.hsc]
    · right; exact ⟨f, r, h1, h2, by rw [h4, e, h.hsc]⟩
set_option maxHeartbeats 4000000 in
theorem keeps_write {room : Int} {rs : List Rec} {i : Nat} {s p hash : LB} {dead stop : Bool} {arm : Int} {q : Nat} {done : List Rec} {failed : Int} (h : KInv room rs i s p hash dead stop arm q done failed) (hr0 : 0 ≤ room) (hr8 : room ≤ 8000) (hi : i ≤ 20) (r : Rec) (hr : rs[i]? = some r) (hv : validP r = true) (a0 a1 a2 : Addr) (A : Option Addr) (n c : Nat) (B : Option Addr) (m k : Nat) (H : Option Addr) (hc : Nat) (RA : Option Addr) (rn rc : Nat) (w : World) (hI : LogIn w ⟨s, p, room, dead, arm, (q : Int), hash, stop⟩ A n c B m k H 32 hc) (hD : Rd w RA rn r.dig) (hS : Std w) (hT : Tabs w) (hE : Sent a0 a1 a2 w) :
    Calls Tryd.prog 10 #[.agg #[Value.slice A n c, .slice B m k, .int .i64 room, .bool dead, .int .i64 arm, .int .i64 (q : Int), .slice H 32 hc, .bool stop], Rec.v r RA rn rc] w (KEnd room rs i q done failed r w) := by
  obtain ⟨hok, harm, hsc, hen, hq, hqi, hstop, hfl, hpe⟩ := h
  have hh : (scanB s).2.1 = hash := (okL_split hok).2.2.1
  have hfit : (s.length : Int) + p.length ≤ room ∧ -1 ≤ arm := by
    have h1 := (okL_split hok).1
    unfold Dk.okD at h1
    rw [decide_eq_true_eq] at h1
    exact ⟨h1.2.2.1, h1.2.2.2⟩
  cases hst : stop with
  | true =>
    have hf0 : 0 ≤ failed := by
      rw [hst] at hstop
      exact of_decide_eq_true hstop.symm
    rw [hst] at hI hok
    refine (awrite_stop s p hash room arm dead true q r a0 a1 a2 A n c B m k H hc RA rn rc w hI hok rfl hS hT hE).mono ?_
    rintro e w' ⟨A2, n2, c2, B2, m2, k2, H2, hc2, rfl, g1, g2, g3, g4, g5, g6, g7⟩
    have hn2 : n2 ≤ 9000 := by have := g1.len; omega
    have hm2 : m2 ≤ 9000 := by have := g3.len; omega
    exact ⟨s, p, hash, dead, true, arm, 42, q, A2, n2, c2, B2, m2, k2, H2, hc2, rfl, ⟨g1, g2, g3, g4, g5, g6, hn2, hm2, by omega⟩, g7, (fun h => absurd h (by decide)), .inr (.inr ⟨rfl, hf0, rfl, rfl, ⟨hok, harm, hsc, hen, hq, by omega, by rw [decide_eq_true hf0], ⟨hfl.1, by omega⟩, hpe⟩⟩)⟩
  | false =>
    have hf0 : failed = -1 := by
      rw [hst] at hstop
      have := of_decide_eq_false hstop.symm
      omega
    rw [hst] at hI hok
    obtain ⟨⟨b1, b2, b3, b4⟩, hp, hd, _, hkq, _⟩ := okL_live hok
    subst hp hd hf0
    have hV := valid_seq hv (k := q) (by omega)
    obtain ⟨R, hRR⟩ : ∃ R, ({ r with seq := (q : Int) } : Rec) = R := ⟨_, rfl⟩
    have hRq : R.seq = (q : Int) := by rw [← hRR]
    obtain ⟨ent, hent⟩ : ∃ x, entP hash R = x := ⟨_, rfl⟩
    obtain ⟨dg, hdg⟩ : ∃ x, digP hash (encP R) = x := ⟨_, rfl⟩
    rw [hRR] at hV
    have hok0 : Dk.okD s.length 0 room arm = true := by
      unfold Dk.okD
      rw [decide_eq_true_eq]
      omega
    have hR1 := apA_le (n := s.length) (m := 0) (room := room) (dead := false) harm
    have hR1' := apA_ge (n := s.length) (m := 0) (room := room) (dead := false) b4
    by_cases hE1 : Dk.apE s.length 0 room false arm ent.length = 0
    · have hP1 : Dk.apP s.length 0 [] room false arm ent = ent := by unfold Dk.apP; rw [if_pos hE1]; rfl
      have hroom : (s.length : Int) + ent.length ≤ room := by
        unfold Dk.apE at hE1
        rw [hok0, if_neg (by simp)] at hE1
        split at hE1
        · omega
        · split at hE1 <;> omega
      have hR2 := apA_le (n := s.length) (m := ent.length) (room := room) (dead := Dk.apD s.length 0 room false arm) hR1
      have hR2' := apA_ge (n := s.length) (m := ent.length) (room := room) (dead := Dk.apD s.length 0 room false arm) hR1'
      by_cases hE2 : Dk.syE s.length ent.length room (Dk.apD s.length 0 room false arm) (Dk.apA s.length 0 room false arm) = 0
      · have hok1 : Dk.okD s.length ent.length room (Dk.apA s.length 0 room false arm) = true := by
          unfold Dk.okD
          rw [decide_eq_true_eq]
          omega
        have hT2 : Dk.apD s.length ent.length room (Dk.apD s.length 0 room false arm) (Dk.apA s.length 0 room false arm) = false := by
          generalize Dk.apD s.length 0 room false arm = T1 at *
          generalize Dk.apA s.length 0 room false arm = R1 at *
          unfold Dk.syE at hE2
          rw [hok1, if_neg (by simp)] at hE2
          unfold Dk.apD
          rw [hok1, if_neg (by simp)]
          unfold Dk.pwD
          cases hb : (T1 || R1 == 0) with
          | false => rfl
          | true =>
            rw [if_pos (by unfold Dk.pwO; rw [hb]; rfl)] at hE2
            cases hE2
        have hw := awrite_okF s [] hash room arm false false q r A n c B m k H hc RA rn rc w hI hok rfl (by rw [hRR]; exact hV) hD harm (by omega) (by rw [hRR, hent]; exact hE1) (by rw [hRR, hent, List.length_nil, hP1]; exact hE2) hS hT
        rw [hRR, hent, hdg, List.length_nil, hP1, hT2] at hw
        refine hw.mono ?_
        rintro e w' ⟨A2, n2, c2, B2, m2, k2, H2, hc2, rfl, g1, g2, g3, g4, g5, g6, g7, g8, g9, g10⟩
        have hm2 : m2 = 0 := by have := g3.len; simpa using this.symm
        have hn2 : n2 ≤ 9000 := by have := g1.len; rw [List.length_append] at this; omega
        have hsn := scan_next hh hen hV (by rw [hRq, hsc, hq])
        have hon := okL_next hh hen (by rw [hsc, hq]) hV hRq hr0 (by omega) (by rw [hent]; exact hroom) hR2'
        rw [hent, hdg] at hsn hon
        have hon' : okL ⟨s ++ ent, [], room, false, Dk.apA s.length ent.length room (Dk.apD s.length 0 room false arm) (Dk.apA s.length 0 room false arm), ((q + 1 : Nat) : Int), dg, false⟩ = true := by rw [Int.natCast_add]; exact hon
        exact ⟨s ++ ent, [], dg, false, false, _, 0, q + 1, A2, n2, c2, B2, m2, k2, H2, hc2, by rw [Int.natCast_add]; rfl, ⟨g1, g2, g3, g4, g5, g6, hn2, by omega, by omega⟩, g7, (fun _ => ⟨g8, g9, g10⟩), .inl ⟨rfl, rfl, rfl, rfl, ⟨hon', hR2, by rw [hsn, hsc, hRR], by rw [hsn, List.length_append], by rw [List.length_append, hq]; rfl, by omega, rfl, ⟨by omega, by omega⟩, .inl rfl⟩⟩⟩
      · have hw := awrite_nosync s [] hash room arm false false q r a0 a1 a2 A n c B m k H hc RA rn rc w hI hok rfl (by rw [hRR]; exact hV) hD harm (by rw [hRR, hent]; exact hE1) (by rw [hRR, hent, List.length_nil, hP1]; exact hE2) hS hT hE
        rw [hRR, hent, List.length_nil, hP1] at hw
        refine hw.mono ?_
        rintro e w' ⟨A2, n2, c2, B2, m2, k2, H2, hc2, rfl, g1, g2, g3, g4, g5, g6, g7⟩
        have hm2 : m2 ≤ 9000 := by have := g3.len; omega
        have hn2 : n2 ≤ 9000 := by have := g1.len; omega
        exact ⟨s, ent, hash, _, true, _, 42, q, A2, n2, c2, B2, m2, k2, H2, hc2, rfl, ⟨g1, g2, g3, g4, g5, g6, hn2, hm2, by omega⟩, g7, (fun h => absurd h (by decide)), .inr (.inl ⟨rfl, rfl, rfl, rfl, ⟨okL_fail hh (by rw [hsc, hq]) hr0 (by omega) hroom hR2', hR2, hsc, hen, hq, by omega, by rw [decide_eq_true (by omega)], ⟨by omega, by omega⟩, .inr ⟨i, r, rfl, hr, by rw [hRR]; exact hV, by rw [hRR, hent]⟩⟩⟩)⟩
    · have hP1 : Dk.apP s.length 0 [] room false arm ent = [] := by unfold Dk.apP; rw [if_neg hE1]
      have hw := awrite_full s [] hash room arm false false q r a0 a1 a2 A n c B m k H hc RA rn rc w hI hok rfl (by rw [hRR]; exact hV) hD harm (by rw [hRR, hent]; exact hE1) hS hT hE
      rw [hRR, hent, List.length_nil, hP1] at hw
      refine hw.mono ?_
      rintro e w' ⟨A2, n2, c2, B2, m2, k2, H2, hc2, rfl, g1, g2, g3, g4, g5, g6, g7⟩
      have hm2 : m2 = 0 := by have := g3.len; simpa using this.symm
      have hn2 : n2 ≤ 9000 := by have := g1.len; omega
      exact ⟨s, [], hash, _, true, _, 42, q, A2, n2, c2, B2, m2, k2, H2, hc2, rfl, ⟨g1, g2, g3, g4, g5, g6, hn2, by omega, by omega⟩, g7, (fun h => absurd h (by decide)), .inr (.inl ⟨rfl, rfl, rfl, rfl, ⟨okL_fail hh (by rw [hsc, hq]) hr0 (by omega) (by simpa using b3) hR1', hR1, hsc, hen, hq, by omega, by rw [decide_eq_true (by omega)], ⟨by omega, by omega⟩, .inl rfl⟩⟩)⟩
end Go.Proofs.YtbbobffedgcbhaaDoor
