/- Audit logs as plain data; the unexported scan of logs, Check, Records. -/
import Derived.Test.YtbbobffedgcbhaaGreatDoorChG
import Derived.Test.YtbbobffedgcbhaaGreatDoorDkAll
namespace Go.Proofs.YtbbobffedgcbhaaGreatDoor
open Go.RowKit
set_option linter.unusedVariables false
structure Lg where
  s : LB
  p : LB
  room : Int
  dead : Bool
  arm : Int
  seq : Int
  hash : LB
  stop : Bool
def okL (L : Lg) : Bool := Dk.okD L.s.length L.p.length L.room L.arm && (decide (((scanB L.s).1.length : Int) = L.seq) && (((scanB L.s).2.1 == L.hash) && (L.stop || (decide ((scanB L.s).2.2 = L.s.length) && (decide (L.p.length = 0) && !L.dead)))))
abbrev lv (L : Lg) (A : Option Addr) (n c : Nat) (B : Option Addr) (m k : Nat) (H : Option Addr) (hn hc : Nat) : Value := .agg #[.slice A n c, .slice B m k, .int .i64 L.room, .bool L.dead, .int .i64 L.arm, .int .i64 L.seq, .slice H hn hc, .bool L.stop]
abbrev lcs (L : Lg) (A : Option Addr) (n c : Nat) (B : Option Addr) (m k : Nat) (H : Option Addr) (hn hc : Nat) : Array Value := #[.slice A n c, .slice B m k, .int .i64 L.room, .bool L.dead, .int .i64 L.arm, .int .i64 L.seq, .slice H hn hc, .bool L.stop]
structure LogIn (w : World) (L : Lg) (A : Option Addr) (n c : Nat) (B : Option Addr) (m k : Nat) (H : Option Addr) (hn hc : Nat) : Prop where
  rs : Rd w A n L.s
  ls : n ≤ c
  rp : Rd w B m L.p
  lp : m ≤ k
  rh : Rd w H hn L.hash
  lh : hn ≤ hc
  sn : n ≤ 9000
  sm : m ≤ 9000
  sh : hn ≤ 9000
theorem LogIn.below {w w' : World} {L : Lg} {A : Option Addr} {n c : Nat} {B : Option Addr} {m k : Nat} {H : Option Addr} {hn hc : Nat} (h : LogIn w L A n c B m k H hn hc) (hb : Below w.heap.size w w') : LogIn w' L A n c B m k H hn hc :=
  ⟨rb h.rs hb, h.ls, rb h.rp hb, h.lp, rb h.rh hb, h.lh, h.sn, h.sm, h.sh⟩
theorem Blk.eight {w : World} {g : Nat} {t : TypeId} {a b c d e f x y : Value} (H : Blk w g t #[a, b, c, d, e, f, x, y]) : w.cell? ⟨g, 0, none⟩ = some a ∧ w.cell? ⟨g, 1, none⟩ = some b ∧ w.cell? ⟨g, 2, none⟩ = some c ∧ w.cell? ⟨g, 3, none⟩ = some d ∧ w.cell? ⟨g, 4, none⟩ = some e ∧ w.cell? ⟨g, 5, none⟩ = some f ∧ w.cell? ⟨g, 6, none⟩ = some x ∧ w.cell? ⟨g, 7, none⟩ = some y :=
  ⟨H.cell 0, H.cell 1, H.cell 2, H.cell 3, H.cell 4, H.cell 5, H.cell 6, H.cell 7⟩
def AScan (L : Lg) (w : World) (e : Ending) (w' : World) : Prop :=
  (okL L = true ∧ ∃ O co l, e = .returned (.tuple #[.slice O l.length co, .bool true]) ∧ OutR w.heap.size w' O l.length co l ∧ l.map RV.r = (scanB L.s).1 ∧ Below w.heap.size w w') ∨ (okL L = false ∧ e = .returned (.tuple #[.slice none 0 0, .bool false]) ∧ Below w.heap.size w w')
theorem okL_split {L : Lg} (h : okL L = true) : Dk.okD L.s.length L.p.length L.room L.arm = true ∧ ((scanB L.s).1.length : Int) = L.seq ∧ (scanB L.s).2.1 = L.hash ∧ (L.stop = true ∨ ((scanB L.s).2.2 = L.s.length ∧ L.p.length = 0 ∧ L.dead = false)) := by
  unfold okL at h
  simp only [Bool.and_eq_true, Bool.or_eq_true, decide_eq_true_eq, beq_iff_eq, Bool.not_eq_true'] at h
  exact h
theorem okL_join {L : Lg} (h1 : Dk.okD L.s.length L.p.length L.room L.arm = true) (h2 : ((scanB L.s).1.length : Int) = L.seq) (h3 : (scanB L.s).2.1 = L.hash) (h4 : L.stop = true ∨ ((scanB L.s).2.2 = L.s.length ∧ L.p.length = 0 ∧ L.dead = false)) : okL L = true := by
  unfold okL
  simp only [Bool.and_eq_true, Bool.or_eq_true, decide_eq_true_eq, beq_iff_eq, Bool.not_eq_true']
  exact ⟨h1, h2, h3, h4⟩
theorem okL_not {L : Lg} (h : ¬ (Dk.okD L.s.length L.p.length L.room L.arm = true ∧ ((scanB L.s).1.length : Int) = L.seq ∧ (scanB L.s).2.1 = L.hash ∧ (L.stop = true ∨ ((scanB L.s).2.2 = L.s.length ∧ L.p.length = 0 ∧ L.dead = false)))) : okL L = false := by
  cases e : okL L with
  | false => rfl
  | true => exact absurd (okL_split e) h
set_option maxRecDepth 100000 in
set_option maxHeartbeats 8000000 in
theorem ascan_any (L : Lg) (A : Option Addr) (n c : Nat) (B : Option Addr) (m k : Nat) (H : Option Addr) (hn hc : Nat) (w : World) (hI : LogIn w L A n c B m k H hn hc) (hS : Std w) (hT : Tabs w) :
    Calls Tryz.prog 38 #[lv L A n c B m k H hn hc] w (AScan L w) := by
  obtain ⟨s, p, room, dead, arm, seq, hash, stop⟩ := L
  obtain ⟨rs, ls, rp, lp, rh, lh, sn, sm, sh⟩ := hI
  dsimp only at *
  have hls : s.length = n := rs.len
  have hlp : p.length = m := rp.len
  have hb := bl_alloc w (.cells (lcs ⟨s, p, room, dead, arm, seq, hash, stop⟩ A n c B m k H hn hc) 26)
  have hk := Blk.new w 26 (lcs ⟨s, p, room, dead, arm, seq, hash, stop⟩ A n c B m k H hn hc)
  have HNO : Hid (∀ W, okL ⟨s, p, room, dead, arm, seq, hash, stop⟩ = false → Below w.heap.size w W → AScan ⟨s, p, room, dead, arm, seq, hash, stop⟩ w (.returned (.tuple #[.slice none 0 0, .bool false])) W) := hide (fun W h1 h2 => .inr ⟨h1, rfl, h2⟩)
  have HYES : Hid (∀ W O co (l : List RV), okL ⟨s, p, room, dead, arm, seq, hash, stop⟩ = true → OutR w.heap.size W O l.length co l → l.map RV.r = (scanB s).1 → Below w.heap.size w W → AScan ⟨s, p, room, dead, arm, seq, hash, stop⟩ w (.returned (.tuple #[.slice O l.length co, .bool true])) W) := hide (fun W O co l h1 h2 h3 h4 => .inl ⟨h1, O, co, l, rfl, h2, h3, h4⟩)
  have HKO := hide (okL_not (L := ⟨s, p, room, dead, arm, seq, hash, stop⟩))
  have HKY := hide (okL_join (L := ⟨s, p, room, dead, arm, seq, hash, stop⟩))
  dsimp only at HKO HKY
  rw [hls, hlp] at HKO HKY
  generalize okL ⟨s, p, room, dead, arm, seq, hash, stop⟩ = OK at *
  generalize AScan ⟨s, p, room, dead, arm, seq, hash, stop⟩ w = POST at *
  have XC := hide (fun W => Dk.check_any A n c B m k room dead arm W (by omega) (by omega))
  have XS := hide (fun W (hW : Below w.heap.size w W) => scan_any A n c s W (rb rs hW) ls (by omega) (hS.below hW) (hT.below hW))
  have XE := hide (fun W (hW : Below w.heap.size w W) (D : Option Addr) (dn : Nat) (x : LB) (hD : Rd W D 32 x) => beq_any D H 32 hn dn hc x hash W _ _ hD (rb rh hW))
  unfold ScanEnd at XS
  obtain ⟨E, hE⟩ : ∃ E, (scanB s).2.2 = E := ⟨_, rfl⟩
  obtain ⟨Dg, hDg⟩ : ∃ D, (scanB s).2.1 = D := ⟨_, rfl⟩
  obtain ⟨P, hP⟩ : ∃ P, (scanB s).1 = P := ⟨_, rfl⟩
  rw [hE, hDg, hP] at XS HKO HKY
  rw [hP] at HYES
  have HB := hide hb
  have HK := hide hk
  clear hls hlp hb hk rs rp rh hS hT hE hDg hP
  obtain ⟨d, hd⟩ : ∃ d, Dk.okD n m room arm = d := ⟨_, rfl⟩
  rw [hd] at XC HKO HKY
  clear hd
  unfold lcs lv Dk.dv at *
  dsimp only at *
  go_enter Tryz.func38, Tryz.ntmps38
  go_wp2_with fail
  refine (XC.out _).mono ?_
  rintro e1 w1 ⟨rfl, hw1⟩
  unfold Dk.dC at hw1
  have hb1 : Below w.heap.size w w1 := by rw [← hw1]; exact HB.out.alloc (by simp) _
  have hk1 : Blk w1 w.heap.size 26 #[.slice A n c, .slice B m k, .int .i64 room, .bool dead, .int .i64 arm, .int .i64 seq, .slice H hn hc, .bool stop] := by rw [← hw1]; exact HK.out.below (bl_alloc _ _) HK.out.lt
  have HB1 := hide hb1
  have HK1 := hide hk1
  clear hw1 hb1 hk1 XC HB HK
  cases d with
  | false =>
    have HX := hide (HNO.out w1 (HKO.out (fun h => by cases h.1)) HB1.out)
    go_wp2_with fail
    first | exact HX.out | refine bodyPost_ret (v := .tuple #[.slice none 0 0, .bool false]) (by simp only [results, Tryz.results38]; go_simp) rfl HX.out
  | true =>
    obtain ⟨z0, z1, z2, z3, z4, z5, z6, z7⟩ := HK1.out.eight
    have zl := HK1.out.lt
    have XS1 := hide (XS.out w1 HB1.out)
    clear XS
    go_wp2_with fail
    refine XS1.out.mono ?_
    rintro e2 w2 ⟨O, co, D, dn, l, rfl, g1, g2, g3, g4⟩
    have hpl : P.length = l.length := by rw [← g2, List.length_map]
    rw [hpl] at HKO HKY
    have HB2 := hide (below_more HB1.out (Nat.le_refl _) g4)
    have HO2 := hide (g1.more HB1.out.size)
    have HM2 := hide g2
    have hk2 := HK1.out.below g4 HK1.out.lt
    have XE2 := hide (XE.out w2 HB2.out D dn Dg g3.rd)
    obtain ⟨q, hq⟩ : ∃ q, l.length = q := ⟨_, rfl⟩
    have HYE : Hid (∀ W, OK = true → Below w2.heap.size w2 W → POST (.returned (.tuple #[.slice O q co, .bool true])) W) := hide (fun W h1 h2 => by
      have := HYES.out W O co l h1 (OutR.below HO2.out h2) HM2.out (below_more HB2.out (Nat.le_refl _) h2)
      rwa [hq] at this)
    have HNE : Hid (∀ W, OK = false → Below w2.heap.size w2 W → POST (.returned (.tuple #[.slice none 0 0, .bool false])) W) := hide (fun W h1 h2 => HNO.out W h1 (below_more HB2.out (Nat.le_refl _) h2))
    rw [hq] at HKO HKY ⊢
    clear z0 z1 z2 z3 z4 z5 z6 z7 zl
    obtain ⟨z0, z1, z2, z3, z4, z5, z6, z7⟩ := hk2.eight
    have zl := hk2.lt
    clear g1 g2 g3 g4 hk2 hpl hq HB1 HK1 XE XS1 HNO HYES HB2 HO2 HM2
    by_cases hsq : (q : Int) = seq
    · subst hsq
      go_wp2_with fail
      refine XE2.out.mono ?_
      rintro e3 w3 ⟨rfl, rfl⟩
      clear XE2
      cases hh : (Dg == hash) with
      | false =>
        have HX := hide (HNE.out w2 (HKO.out (fun h => by rw [h.2.2.1] at hh; simp at hh)) (Below.refl _ _))
        clear hh
        go_wp2_with fail
        first | exact HX.out | refine bodyPost_ret (v := .tuple #[.slice none 0 0, .bool false]) (by simp only [results, Tryz.results38]; go_simp) rfl HX.out
      | true =>
        have hde : Dg = hash := by simpa using hh
        clear hh
        cases stop with
        | true =>
          have HX := hide (HYE.out w2 (HKY.out (by trivial) (by trivial) hde (by simp)) (Below.refl _ _))
          clear hde HKO HKY
          go_wp2_with fail
          all_goals first | exact HX.out | refine bodyPost_ret (v := .tuple #[.slice O q co, .bool true]) (by simp only [results, Tryz.results38]; go_simp) rfl HX.out
        | false =>
          by_cases he : E = n
          · by_cases hm : m = 0
            · cases dead with
              | false =>
                have HX := hide (HYE.out w2 (HKY.out (by trivial) (by trivial) hde (.inr ⟨he, hm, rfl⟩)) (Below.refl _ _))
                subst he
                subst hm
                clear hde HKO HKY
                go_wp2_with fail
                first | exact HX.out | refine bodyPost_ret (v := .tuple #[.slice O q co, .bool true]) (by simp only [results, Tryz.results38]; go_simp) rfl HX.out
              | true =>
                have HX := hide (HNE.out w2 (HKO.out (fun h => by have := h.2.2.2; simp at this)) (Below.refl _ _))
                clear hde HKO HKY
                subst he
                subst hm
                go_wp2_with fail
                first | exact HX.out | refine bodyPost_ret (v := .tuple #[.slice none 0 0, .bool false]) (by simp only [results, Tryz.results38]; go_simp) rfl HX.out
            · have HX := hide (HNE.out w2 (HKO.out (fun h => by have := h.2.2.2; simp at this; omega)) (Below.refl _ _))
              have hm1 : ((m : Int) == 0) = false := by rw [beq_eq_false_iff_ne]; omega
              clear hde HKO HKY hm
              subst he
              go_wp2_with fail
              first | exact HX.out | refine bodyPost_ret (v := .tuple #[.slice none 0 0, .bool false]) (by simp only [results, Tryz.results38]; go_simp) rfl HX.out
          · have HX := hide (HNE.out w2 (HKO.out (fun h => by have := h.2.2.2; simp at this; omega)) (Below.refl _ _))
            have he1 : ((E : Int) == (n : Int)) = false := by rw [beq_eq_false_iff_ne]; omega
            clear hde HKO HKY he
            go_wp2_with fail
            first | exact HX.out | refine bodyPost_ret (v := .tuple #[.slice none 0 0, .bool false]) (by simp only [results, Tryz.results38]; go_simp) rfl HX.out
    · have HX := hide (HNE.out w2 (HKO.out (fun h => hsq h.2.1)) (Below.refl _ _))
      have hsq1 : ((q : Int) != seq) = true := by rw [bne_iff_ne]; exact hsq
      clear hsq HKO HKY XE2
      go_wp2_with fail
      first | exact HX.out | refine bodyPost_ret (v := .tuple #[.slice none 0 0, .bool false]) (by simp only [results, Tryz.results38]; go_simp) rfl HX.out
end Go.Proofs.YtbbobffedgcbhaaGreatDoor
