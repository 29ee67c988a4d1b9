/- cat and head: the law. -/
import Derived.Test.YtlkccboongnneaaGreatDoorPgAF
namespace Go.Proofs.YtlkccboongnneaaGreatDoor
open Go.RowKit
set_option linter.unusedVariables false
theorem ranL {p : PR} {out : Bs} {ps : List Bs} {at_ : Int} (hE : ranP (atN at_) 400 p [] ps = (out, 0, true)) (hf : FitP p) (hj : (Lib.join p.args.tail [32]).length ≤ 400000) (ht : toldB p.prog) (hy : p.prog ≠ nYes) (s : PS) (L : Option Addr) (n c : Nat) (w w0 : World) (hI : InP w w.heap.size p s) (hS : StB w0.heap.size w0) (hb : Below w0.heap.size w0 w)
    (hR : RowsP w L n ps) (hok : AllOk ps) (hn : n ≤ 20) (hat : i64R at_) :
    Calls Tryz.prog 17 #[.agg #[Value.int .i64 p.pid, .string ⟨p.prog.toArray⟩, .slice s.A s.an s.ac, .slice s.E s.en s.ec, .slice s.F s.fn s.fc, .bool p.done, .int .i64 p.status, .int .i64 p.phase, .int .i64 p.count, .slice s.D s.dn s.dc], .slice L n c, .int .i64 at_] w fun e w' => e = .returned (.tuple #[.string ⟨out.toArray⟩, .int .i64 0, .bool true]) ∧ Below w.heap.size w w' := by
  have := ran_any p s L n c ps at_ w hI hf ((hS.keep hb).more hb.size) hj ht hy hR hok hn hat
  rw [hE] at this
  exact this
def empS : Value → Nat
  | .string s => if s.data.toList = [] then 1 else 0
  | _ => 0
set_option maxRecDepth 100000 in
set_option maxHeartbeats 16000000 in
theorem copies_any (L : Option Addr) (n c : Nat) (ps : List Bs) (kk at_ : Int) (w : World) (hR : RowsP w L n ps) (hn : n ≤ 5864062014805) (hk : i64R kk) (hat : i64R at_) (hS : StB w.heap.size w) :
    Calls Tryz.prog 4 #[.slice L n c, .int .i64 kk, .int .i64 at_] w fun e w' => e = .returned (.bool true) ∧ Below w.heap.size w w' := by
  have XJ := hide (joined_any L n c ps w hR hn)
  have HS := hide hS
  have HR := hide hR
  have HAT := hide hat
  have XH := hide (fun W (hb : Below w.heap.size w W) => heads_any W ((hS.keep hb).more hb.size))
  clear hR hS hat
  go_enter Tryz.func4, Tryz.ntmps4
  go_wp2_with fail
  refine XJ.out.mono ?_
  rintro e w1 ⟨⟨hok, rfl⟩ | ⟨hno, rfl⟩, hb1⟩
  · have HB1 := hide hb1
    have HOK := hide hok
    have HR1 := hide (HR.out.below hb1)
    clear hb1 hok XJ
    by_cases hcond : n ≤ 20 ∧ 0 ≤ kk ∧ kk ≤ 300
    · obtain ⟨h20, hk0, hk3⟩ := hcond
      have hd20 : decide (n ≤ 20) = true := decide_eq_true h20
      obtain ⟨K, rfl⟩ : ∃ K : Nat, kk = K := ⟨kk.toNat, by omega⟩
      have hK3 : K ≤ 300 := by omega
      have hlen : ps.length ≤ 20 := by rw [HR.out.1]; exact h20
      have hfl := flat_len ps HOK.out hlen
      have HCAT := hide (cat_all at_ ps HOK.out hlen)
      have HHEAD := hide (head_all at_ ps HOK.out hlen K hK3)
      obtain ⟨T, hT⟩ : ∃ T, flat ps = T := ⟨_, rfl⟩
      rw [hT] at hfl HCAT HHEAD ⊢
      rw [hd20]
      clear hd20 hT hk
      go_wp2_with fail
      refine (beginL [99, 97, 116] [[99, 97, 116]] [] (some ⟨w1.heap.size, 0, none⟩) 1 none 0 (w1.alloc (.cells #[.string ⟨#[99, 97, 116]⟩] 9)) (lit_rdA w1 #[.string ⟨#[99, 97, 116]⟩] 9 1 _ rfl rfl) ⟨rfl, fun h => absurd h (by omega)⟩ ⟨by omega, by omega⟩).mono ?_
      rintro e w2 ⟨s2, rfl, hI, hb⟩
      have hT2 := (on_alloc w1 (.cells #[.string ⟨#[99, 97, 116]⟩] 9)).trans (hb.mono (by simp))
      have HB2 := hide (HB1.out.trans (hT2.mono HB1.out.size))
      have XR := hide (ranL HCAT.out (fit_of (by decide)) (by decide) t_C0 (by decide) s2 L n c w2 w hI HS.out HB2.out (HR1.out.below hT2) HOK.out h20 HAT.out)
      clear hI hb hT2 HCAT
      go_wp2_with fail
      refine XR.out.mono ?_
      rintro e w3 ⟨rfl, hb⟩
      have HB3 := hide (HB2.out.trans (hb.mono HB2.out.size))
      clear hb XR HB2
      go_wp2_with fail
      go_loopw [12, 13] (fun u12 u13 wx => ∃ (X : Nat) (l : Bs), u13 = .int .i64 (X : Int) ∧ X ≤ 300 ∧ u12 = .string ⟨l.toArray⟩ ∧ Hid (DI K X l) ∧ w3 = wx) (fun d k _ => (intOf k).toNat + empS d)
      case atStart => exact ⟨K, [], rfl, hK3, rfl, hide (.inl ⟨rfl, rfl⟩), rfl⟩
      case round =>
        obtain ⟨X, l, rfl, hX3, rfl, HDI, rfl⟩ := hrel
        have hl9 := HDI.out.len (by omega)
        obtain ⟨j, hj⟩ : ∃ j, X % 10 = j := ⟨_, rfl⟩
        have hj10 : j < 10 := by omega
        have hjm : (X : Int) % 10 = (j : Int) := by omega
        obtain ⟨Y, hY⟩ : ∃ Y, X / 10 = Y := ⟨_, rfl⟩
        have hYm : (X : Int) / 10 = (Y : Int) := by omega
        have hw32 : IntKind.i32.wrap (48 + (j : Int)) = 48 + (j : Int) := by simp [IntKind.wrap, IntKind.bits, IntKind.signed]; omega
        have hru : ∀ W, (convert 21 9 (.int .i32 (48 + (j : Int)))).run Tryz.prog W = .ok (.string ⟨[UInt8.ofNat (48 + j)].toArray⟩) W := fun W => by
          rw [run_convert_int_string W 21 9 .i32 _ (by rw [Tryz.underlying21]; rfl) Tryz.underlying9, rune_dig j hj10]
        have HJ := hide hj
        have HY := hide hY
        clear hj hY
        by_cases hx0 : X = 0
        · have hxn : ¬ (0 : Int) < (X : Int) := by omega
          have HX0 := hide hx0
          clear hx0
          by_cases hl0 : l = []
          · subst hl0
            have HNX : Hid (DI K 0 [48]) := hide (by have := HDI.out.next (.inr rfl); rw [HX0.out] at this; exact this)
            have h48 : Utf8.encode 48 = ⟨[48].toArray⟩ := rune_dig 0 (by omega)
            have H48 := hide h48
            clear h48
            go_wp2_with fail
            go_roundw
            case rel =>
              refine ⟨0, [48], ?_, by omega, ?_, HNX, ?_⟩
              · first | rfl | trivial
              · rw [H48.out]; rfl
              · first | rfl | trivial
            case measure =>
              have e48 := H48.out
              first | (simp [intOf, empS, e48]; done) | (simp [intOf, empS, e48]; omega)
          · have hlb : (l == []) = false := by simpa using hl0
            have HD : Hid (Lib.decDigits K = l) := hide (HDI.out.done HX0.out hl0)
            clear hl0 hjm hYm hru hw32 HDI
            go_wp2_with fail
            refine (beginL [104, 101, 97, 100] [[104, 101, 97, 100], l] [] (some ⟨w3.heap.size, 0, none⟩) 2 none 0 (w3.alloc (.cells #[.string ⟨#[104, 101, 97, 100]⟩, .string ⟨l.toArray⟩] 9)) (lit_rdA w3 #[.string ⟨#[104, 101, 97, 100]⟩, .string ⟨l.toArray⟩] 9 2 _ rfl rfl) ⟨rfl, fun h => absurd h (by omega)⟩ ⟨by omega, by omega⟩).mono ?_
            rintro e w4 ⟨s4, rfl, hI, hb⟩
            have hT4 := (on_alloc w3 (.cells #[.string ⟨#[104, 101, 97, 100]⟩, .string ⟨l.toArray⟩] 9)).trans (hb.mono (by simp))
            have HB4 := hide (HB3.out.trans (hT4.mono HB3.out.size))
            have hfit : FitP (bornP 1 [104, 101, 97, 100] [[104, 101, 97, 100], l] [] []) := ⟨by show 2 ≤ _; omega, by show 0 ≤ _; omega, by show 0 ≤ _; omega, by show 0 ≤ _; omega, rfl, by intro x hx; simp [bornP] at hx; rcases hx with rfl | rfl <;> first | (simp; done) | omega, r0, r0, r0, by show 4 ≤ _; omega⟩
            have XR := hide (ranL (p := bornP 1 [104, 101, 97, 100] [[104, 101, 97, 100], l] [] []) (by have := HHEAD.out; rw [HD.out] at this; exact this) hfit (by show (Lib.join [l] [32]).length ≤ _; rw [Lib.join_one]; omega) (.inr (.inr (.inr (.inr (.inl rfl))))) (by show nHead ≠ nYes; decide) s4 L n c w4 w hI HS.out HB4.out (HR.out.below HB4.out) HOK.out h20 HAT.out)
            clear hI hb hT4 HHEAD hfit
            go_wp2_with fail
            refine XR.out.mono ?_
            rintro e w5 ⟨rfl, hb⟩
            have HB5 := hide (HB4.out.trans (hb.mono HB4.out.size))
            clear hb XR HB4
            have XH5 := hide (XH.out w5 HB5.out)
            clear XH
            obtain ⟨m, hm⟩ : ∃ m, min K T.length = m := ⟨_, rfl⟩
            have hmn : min (K : Int) (T.length : Int) = (m : Int) := by omega
            have hmT : m ≤ T.length := by omega
            have hex : (⟨T.toArray⟩ : ByteArray).extract 0 m = ⟨(T.take K).toArray⟩ := by
              rw [ext_two]
              congr 2
              rw [List.drop_zero, Nat.sub_zero, ← hm]
              rcases Nat.le_total K T.length with h | h
              · rw [Nat.min_eq_left h]
              · rw [Nat.min_eq_right h, List.take_of_length_le (Nat.le_refl _), List.take_of_length_le h]
            clear hm
            go_wp2_with fail
            refine XH5.out.mono ?_
            rintro e w6 ⟨rfl, hb⟩
            have HB6 := hide (HB5.out.trans (hb.mono HB5.out.size))
            clear hb XH5
            go_wp2_with fail
            go_ret
            exact ⟨rfl, HB6.out⟩
        · have hxp : (0 : Int) < (X : Int) := by omega
          have HNX := hide (HDI.out.next (.inl (by omega)))
          go_wp2_with fail
          go_roundw
          case rel =>
            refine ⟨Y, UInt8.ofNat (48 + j) :: l, rfl, by have := HY.out; omega, ?_, hide (by have := HNX.out; rwa [HJ.out, HY.out] at this), by first | rfl | trivial⟩
            first | (rw [catB]; simp; done) | simp [catB]
          case measure =>
            have := HY.out
            simp [intOf, empS]
            split <;> omega
    · have XH1 := hide (XH.out w1 HB1.out)
      clear XH
      have fin_ : ∀ e w', (e = Ending.returned (.bool true) ∧ Below w1.heap.size w1 w') → (e = Ending.returned (.bool true) ∧ Below w.heap.size w w') := fun e w' ⟨h1, h2⟩ => ⟨h1, HB1.out.trans (h2.mono HB1.out.size)⟩
      have FN := hide fin_
      clear fin_
      by_cases h20 : n ≤ 20
      · have hd20 : decide (n ≤ 20) = true := decide_eq_true h20
        rw [hd20]
        clear hd20
        by_cases hk0 : 0 ≤ kk
        · have hk3 : (300 : Int) < kk := by omega
          clear hcond
          go_wp2_with fail
          refine XH1.out.mono ?_
          rintro e w6 ⟨rfl, hb⟩
          have HB6 := hide hb
          clear hb XH1
          go_wp2_with fail
          go_ret
          exact FN.out _ _ ⟨rfl, HB6.out⟩
        · have hk3 : kk < 0 := by omega
          clear hcond
          go_wp2_with fail
          refine XH1.out.mono ?_
          rintro e w6 ⟨rfl, hb⟩
          have HB6 := hide hb
          clear hb XH1
          go_wp2_with fail
          go_ret
          exact FN.out _ _ ⟨rfl, HB6.out⟩
      · have hd20 : decide (n ≤ 20) = false := decide_eq_false h20
        rw [hd20]
        clear hd20 hcond
        go_wp2_with fail
        refine XH1.out.mono ?_
        rintro e w6 ⟨rfl, hb⟩
        have HB6 := hide hb
        clear hb XH1
        go_wp2_with fail
        go_ret
        exact FN.out _ _ ⟨rfl, HB6.out⟩
  · have HB1 := hide hb1
    have XH1 := hide (XH.out w1 hb1)
    clear hb1 hno XJ XH
    go_wp2_with fail
    refine XH1.out.mono ?_
    rintro e w6 ⟨rfl, hb⟩
    have HB6 := hide hb
    clear hb XH1
    go_wp2_with fail
    go_ret
    exact ⟨rfl, HB1.out.trans (HB6.out.mono HB1.out.size)⟩
end Go.Proofs.YtlkccboongnneaaGreatDoor
