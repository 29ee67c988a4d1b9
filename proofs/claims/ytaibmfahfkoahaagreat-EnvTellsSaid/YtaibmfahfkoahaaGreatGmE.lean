/- The contract of glob.run at bytes: the walk. -/
import Derived.Test.YtaibmfahfkoahaaGreatGmD
namespace Go.Proofs.YtaibmfahfkoahaaGreat
open Go.RowKit
set_option linter.unusedVariables false
def stI : Option Nat → Int
  | none => -1
  | some s => s
theorem ev_at {w : World} {es : List El} {cells : List Value} {g o B n : Nat} (hE : EvL w es cells) (hc : ∀ j u, cells[j]? = some u → w.cell? ⟨g, o + j, none⟩ = some u) (k : Nat) (h : k < es.length) :
    ∃ a b, w.cell? ⟨g, o + k * 2, none⟩ = some a ∧ w.cell? ⟨g, o + k * 2 + 1, none⟩ = some b ∧ EV w es[k] a b := by
  obtain ⟨a, b, h1, h2, h3⟩ := hE.2 k h
  exact ⟨a, b, hc _ _ h1, hc _ _ h2, h3⟩
theorem cells_of {w : World} {B size n : Nat} {A : Option Addr} {xs : List Value} (h : Reads w B size A n xs) (h0 : 0 < n) (hx : 0 < xs.length) : ∃ g o, A = some ⟨g, o, none⟩ ∧ g < B ∧ ∀ j u, xs[j]? = some u → w.cell? ⟨g, o + j, none⟩ = some u := by
  obtain ⟨ad, rfl, hb, hc⟩ := h.2 h0
  have h00 := hc 0 xs[0] (List.getElem?_eq_getElem hx)
  rw [add_zero_] at h00
  have hs : ad = ⟨ad.block, ad.off, none⟩ := by
    obtain ⟨b, o, s⟩ := ad
    cases s with
    | none => rfl
    | some x =>
      unfold World.cell? at h00
      split at h00 <;> simp at h00
  refine ⟨ad.block, ad.off, by rw [← hs], hb, fun j u hj => ?_⟩
  have := hc j u hj
  rw [hs, at_add] at this
  exact this
theorem sem_get (es : List El) (k : Nat) (h : k < es.length) (h' : k < (es.map El.sem).length) : (es.map El.sem)[k] = (es[k].many, es[k].fits) := by simp [El.sem]
set_option maxRecDepth 100000 in
set_option maxHeartbeats 8000000 in
theorem runb_any (es : List El) (bs : Bs) (cells : List Value) (A B : Option Addr) (n c m d : Nat) (w : World) (hn : n = es.length) (hA : Reads w w.heap.size 2 A n cells) (hE : EvL w es cells) (hB : Rd w B m bs) (h1 : es.length ≤ 2000) (h2 : bs.length ≤ 2000) :
    Calls Tryz.prog 72 #[.slice A n c, .slice B m d] w fun e w' => e = .returned (.bool (M (es.map El.sem) bs)) ∧ ∃ k, w' = w.drewN k := by
  subst hn
  have hm := hB.len
  subst hm
  obtain ⟨out, ho⟩ : ∃ out, M (es.map El.sem) bs = out := ⟨_, rfl⟩
  rw [ho]
  have HS : Hid (GInv (es.map El.sem) bs out none 0 0 0) := hide (by rw [← ho]; exact GInv.start)
  have HL : Hid ((es.map El.sem).length = es.length) := hide (by simp)
  have HE := hide hE
  have HA := hide hA
  have HB := hide hB
  clear ho hE hA hB
  go_enter Tryz.func72, Tryz.ntmps72
  go_wp2_with fail
  go_loopw [5, 6, 7, 8] (fun u5 u6 u7 u8 wx => ∃ (at_ item taken dr : Nat) (s : Option Nat) (st : Int), u5 = .int .i64 at_ ∧ u6 = .int .i64 item ∧ u7 = .int .i64 st ∧ u8 = .int .i64 taken ∧ wx = w.drewN dr ∧ Hid (GInv (es.map El.sem) bs out s at_ item taken) ∧ at_ ≤ es.length ∧ item ≤ bs.length ∧ taken ≤ item ∧ Hid (st = stI s) ∧ -1 ≤ st ∧ st ≤ 2000) (fun u5 _ u7 u8 _ => (4096 - (intOf u7 + 1).toNat) * 16777216 + (4096 - (intOf u8).toNat) * 4096 + (4096 - (intOf u5).toNat))
  case atStart => exact ⟨0, 0, 0, 0, none, -1, rfl, rfl, rfl, rfl, rfl, HS, Nat.zero_le _, Nat.zero_le _, Nat.le_refl _, hide rfl, by omega, by omega⟩
  case round =>
    clear HS
    obtain ⟨at_, item, taken, dr, s, st, rfl, rfl, rfl, rfl, rfl, HG, ha, hi, ht, HST, hs1, hs2⟩ := hrel
    by_cases hlt : item < bs.length
    · have hlt' : (item : Int) < (bs.length : Int) := by omega
      have hli : (0 : Int) ≤ (item : Int) := by omega
      by_cases hat : at_ < es.length
      · have hat' : (at_ : Int) < (es.length : Int) := by omega
        have hla : (0 : Int) ≤ (at_ : Int) := by omega
        have hgt : decide ((at_ : Int) < (es.length : Int)) = true := decide_eq_true hat'
        have hgt2 : decide (at_ < es.length) = true := decide_eq_true hat
        obtain ⟨g, o, rfl, hg, hcl⟩ := cells_of HA.out (by omega) (by rw [HE.out.1]; omega)
        obtain ⟨va, vb, hca, hcb, hev⟩ := ev_at (B := 0) (n := 0) HE.out hcl at_ hat
        have hatm : at_ < (es.map El.sem).length := by rw [HL.out]; exact hat
        have hsem := sem_get es at_ hat hatm
        have HSEM := hide hsem
        generalize hel : es[at_] = el at *
        clear hcl hsem hel
        obtain ⟨x, hx⟩ : ∃ x, bs[item] = x := ⟨_, rfl⟩
        have HX := hide hx
        obtain ⟨g2, o2, rfl, hg2, hcl2⟩ := cells_of HB.out (by omega) (by rw [bv_length]; omega)
        have hcx := hcl2 item _ (bv_get bs item hlt)
        rw [hx] at hcx
        clear hx hcl2
        cases hmany : el.many with
        | true =>
          cases el <;> simp [El.many] at hmany
          obtain ⟨rfl, rfl⟩ := hev
          have HG2 := hide (HG.out.star hatm (by rw [HSEM.out]; rfl))
          have hst : st + 1 ≤ at_ := by
            rw [HST.out]
            cases s with
            | none => show (-1 : Int) + 1 ≤ _; omega
            | some s =>
              have := HG.out.taken_le
              show (s : Int) + 1 ≤ _
              omega
          clear HG HST hmany
          go_wp2_with fail
          go_roundw
          case rel => exact ⟨at_ + 1, item, item, dr, some at_, (at_ : Int), by go_num, rfl, rfl, rfl, rfl, HG2, by omega, by omega, by omega, hide rfl, by omega, by omega⟩
          case measure => simp only [intOf]; simp; omega
        | false =>
          cases el with
          | star => simp [El.many] at hmany
          | any =>
            obtain ⟨rfl, rfl⟩ := hev
            have HFT : Hid (El.any.fits x = true) := hide rfl
            have HF : Hid (∀ a n, Calls Tryz.prog 99 #[.int .u8 (x.toNat : Int)] (w.drewN (a + n)) fun e w'' => e = .returned (.bool true) ∧ ∃ m, w'' = w.drewN (a + m)) := hide (fun a n => by
              refine (fit_any x _).mono ?_
              rintro e w'' ⟨rfl, h⟩
              refine ⟨?_, ?_⟩
              · first | rfl | rw [HFT.out]
              · first
                  | exact ⟨n, h.symm⟩
                  | (obtain ⟨k, rfl⟩ := h; exact ⟨n + k, by rw [World.drewN_drewN, Nat.add_assoc]⟩))
            have HF2 : Hid (∀ n, Calls Tryz.prog 99 #[.int .u8 (x.toNat : Int)] (w.drewN n) fun e w'' => e = .returned (.bool true) ∧ ∃ m, w'' = w.drewN m) := hide (fun n => by
              refine (fit_any x _).mono ?_
              rintro e w'' ⟨rfl, h⟩
              refine ⟨?_, ?_⟩
              · first | rfl | rw [HFT.out]
              · first
                  | exact ⟨n, h.symm⟩
                  | (obtain ⟨k, rfl⟩ := h; exact ⟨n + k, by rw [World.drewN_drewN]⟩))
            have HG2 := hide (HG.out.fit hatm (by rw [HSEM.out]; rfl) hlt (by rw [HSEM.out, HX.out]; exact HFT.out))
            clear HG hmany HFT
            go_wp2_with fail
            go_quiet ((go_at_call 99; first | with_reducible exact HF.out _ _ | with_reducible exact HF2.out _))
            go_wp2_with fail
            go_roundw
            case rel => exact ⟨at_ + 1, item + 1, taken, _, s, st, by go_num, by go_num, rfl, rfl, rfl, HG2, by omega, by omega, by omega, HST, hs1, hs2⟩
            case measure => simp only [intOf]; simp; omega
          | one ch =>
            obtain ⟨rfl, g3, rfl, hblk⟩ := hev
            have HBK := hide hblk
            clear hblk
            cases hft : (x == ch)
            · have HFT : Hid ((x == ch) = false) := hide hft
              clear hft
              have HF : Hid (∀ a n, Calls Tryz.prog 107 #[.int .u8 (x.toNat : Int), .pointer (some ⟨g3, 0, none⟩)] (w.drewN (a + n)) fun e w'' => e = .returned (.bool false) ∧ ∃ m, w'' = w.drewN (a + m)) := hide (fun a n => by
                refine (fit_one x ch g3 _ (HBK.out.drewN _)).mono ?_
                rintro e w'' ⟨rfl, h⟩
                refine ⟨?_, ?_⟩
                · first | rfl | rw [HFT.out]
                · first
                    | exact ⟨n, h.symm⟩
                    | (obtain ⟨k, rfl⟩ := h; exact ⟨n + k, by rw [World.drewN_drewN, Nat.add_assoc]⟩))
              have HF2 : Hid (∀ n, Calls Tryz.prog 107 #[.int .u8 (x.toNat : Int), .pointer (some ⟨g3, 0, none⟩)] (w.drewN n) fun e w'' => e = .returned (.bool false) ∧ ∃ m, w'' = w.drewN m) := hide (fun n => by
                refine (fit_one x ch g3 _ (HBK.out.drewN _)).mono ?_
                rintro e w'' ⟨rfl, h⟩
                refine ⟨?_, ?_⟩
                · first | rfl | rw [HFT.out]
                · first
                    | exact ⟨n, h.symm⟩
                    | (obtain ⟨k, rfl⟩ := h; exact ⟨n + k, by rw [World.drewN_drewN]⟩))
              have HM := hide (misses_fit (es := es.map El.sem) (it := bs) hatm (by rw [HSEM.out]; rfl) hlt (by rw [HSEM.out, HX.out]; exact HFT.out))
              clear hmany HFT
              cases s with
              | none =>
                obtain rfl : st = -1 := HST.out
                have HO := hide (HG.out.lost HM.out)
                clear HG HST HM
                go_wp2_with fail
                go_quiet ((go_at_call 107; first | with_reducible exact HF.out _ _ | with_reducible exact HF2.out _))
                go_wp2_with fail
                go_ret
                exact ⟨ret_bool HO.out.symm, _, rfl⟩
              | some s =>
                obtain rfl : st = (s : Int) := HST.out
                have htl : s < es.length := by have := HG.out.taken_le.1; rw [HL.out] at this; exact this
                have HG2 := hide (HG.out.back hlt HM.out)
                have hsn : (0 : Int) ≤ (s : Int) := by omega
                clear HG HST HM
                go_wp2_with fail
                go_quiet ((go_at_call 107; first | with_reducible exact HF.out _ _ | with_reducible exact HF2.out _))
                go_wp2_with fail
                go_roundw
                case rel => exact ⟨s + 1, taken + 1, taken + 1, _, some s, (s : Int), by go_num, by go_num, rfl, by go_num, rfl, HG2, by omega, by omega, by omega, hide rfl, by omega, by omega⟩
                case measure => simp only [intOf]; simp; omega
            · have HFT : Hid ((x == ch) = true) := hide hft
              clear hft
              have HF : Hid (∀ a n, Calls Tryz.prog 107 #[.int .u8 (x.toNat : Int), .pointer (some ⟨g3, 0, none⟩)] (w.drewN (a + n)) fun e w'' => e = .returned (.bool true) ∧ ∃ m, w'' = w.drewN (a + m)) := hide (fun a n => by
                refine (fit_one x ch g3 _ (HBK.out.drewN _)).mono ?_
                rintro e w'' ⟨rfl, h⟩
                refine ⟨?_, ?_⟩
                · first | rfl | rw [HFT.out]
                · first
                    | exact ⟨n, h.symm⟩
                    | (obtain ⟨k, rfl⟩ := h; exact ⟨n + k, by rw [World.drewN_drewN, Nat.add_assoc]⟩))
              have HF2 : Hid (∀ n, Calls Tryz.prog 107 #[.int .u8 (x.toNat : Int), .pointer (some ⟨g3, 0, none⟩)] (w.drewN n) fun e w'' => e = .returned (.bool true) ∧ ∃ m, w'' = w.drewN m) := hide (fun n => by
                refine (fit_one x ch g3 _ (HBK.out.drewN _)).mono ?_
                rintro e w'' ⟨rfl, h⟩
                refine ⟨?_, ?_⟩
                · first | rfl | rw [HFT.out]
                · first
                    | exact ⟨n, h.symm⟩
                    | (obtain ⟨k, rfl⟩ := h; exact ⟨n + k, by rw [World.drewN_drewN]⟩))
              have HG2 := hide (HG.out.fit hatm (by rw [HSEM.out]; rfl) hlt (by rw [HSEM.out, HX.out]; exact HFT.out))
              clear HG hmany HFT
              go_wp2_with fail
              go_quiet ((go_at_call 107; first | with_reducible exact HF.out _ _ | with_reducible exact HF2.out _))
              go_wp2_with fail
              go_roundw
              case rel => exact ⟨at_ + 1, item + 1, taken, _, s, st, by go_num, by go_num, rfl, rfl, rfl, HG2, by omega, by omega, by omega, HST, hs1, hs2⟩
              case measure => simp only [intOf]; simp; omega
          | cls sf nt =>
            obtain ⟨rfl, g3, g4, rfl, hblk⟩ := hev
            have HBK := hide hblk
            clear hblk
            cases hft : (sf x != nt)
            · have HFT : Hid ((sf x != nt) = false) := hide hft
              clear hft
              have HF : Hid (∀ a n, Calls Tryz.prog 106 #[.int .u8 (x.toNat : Int), .pointer (some ⟨g3, 0, none⟩), .pointer (some ⟨g4, 0, none⟩)] (w.drewN (a + n)) fun e w'' => e = .returned (.bool false) ∧ ∃ m, w'' = w.drewN (a + m)) := hide (fun a n => by
                refine (fit_cls x sf nt g3 g4 _ (⟨HBK.out.1.drewN _, HBK.out.2.drewN _⟩)).mono ?_
                rintro e w'' ⟨rfl, h⟩
                refine ⟨?_, ?_⟩
                · first | rfl | rw [HFT.out]
                · first
                    | exact ⟨n, h.symm⟩
                    | (obtain ⟨k, rfl⟩ := h; exact ⟨n + k, by rw [World.drewN_drewN, Nat.add_assoc]⟩))
              have HF2 : Hid (∀ n, Calls Tryz.prog 106 #[.int .u8 (x.toNat : Int), .pointer (some ⟨g3, 0, none⟩), .pointer (some ⟨g4, 0, none⟩)] (w.drewN n) fun e w'' => e = .returned (.bool false) ∧ ∃ m, w'' = w.drewN m) := hide (fun n => by
                refine (fit_cls x sf nt g3 g4 _ (⟨HBK.out.1.drewN _, HBK.out.2.drewN _⟩)).mono ?_
                rintro e w'' ⟨rfl, h⟩
                refine ⟨?_, ?_⟩
                · first | rfl | rw [HFT.out]
                · first
                    | exact ⟨n, h.symm⟩
                    | (obtain ⟨k, rfl⟩ := h; exact ⟨n + k, by rw [World.drewN_drewN]⟩))
              have HM := hide (misses_fit (es := es.map El.sem) (it := bs) hatm (by rw [HSEM.out]; rfl) hlt (by rw [HSEM.out, HX.out]; exact HFT.out))
              clear hmany HFT
              cases s with
              | none =>
                obtain rfl : st = -1 := HST.out
                have HO := hide (HG.out.lost HM.out)
                clear HG HST HM
                go_wp2_with fail
                go_quiet ((go_at_call 106; first | with_reducible exact HF.out _ _ | with_reducible exact HF2.out _))
                go_wp2_with fail
                go_ret
                exact ⟨ret_bool HO.out.symm, _, rfl⟩
              | some s =>
                obtain rfl : st = (s : Int) := HST.out
                have htl : s < es.length := by have := HG.out.taken_le.1; rw [HL.out] at this; exact this
                have HG2 := hide (HG.out.back hlt HM.out)
                have hsn : (0 : Int) ≤ (s : Int) := by omega
                clear HG HST HM
                go_wp2_with fail
                go_quiet ((go_at_call 106; first | with_reducible exact HF.out _ _ | with_reducible exact HF2.out _))
                go_wp2_with fail
                go_roundw
                case rel => exact ⟨s + 1, taken + 1, taken + 1, _, some s, (s : Int), by go_num, by go_num, rfl, by go_num, rfl, HG2, by omega, by omega, by omega, hide rfl, by omega, by omega⟩
                case measure => simp only [intOf]; simp; omega
            · have HFT : Hid ((sf x != nt) = true) := hide hft
              clear hft
              have HF : Hid (∀ a n, Calls Tryz.prog 106 #[.int .u8 (x.toNat : Int), .pointer (some ⟨g3, 0, none⟩), .pointer (some ⟨g4, 0, none⟩)] (w.drewN (a + n)) fun e w'' => e = .returned (.bool true) ∧ ∃ m, w'' = w.drewN (a + m)) := hide (fun a n => by
                refine (fit_cls x sf nt g3 g4 _ (⟨HBK.out.1.drewN _, HBK.out.2.drewN _⟩)).mono ?_
                rintro e w'' ⟨rfl, h⟩
                refine ⟨?_, ?_⟩
                · first | rfl | rw [HFT.out]
                · first
                    | exact ⟨n, h.symm⟩
                    | (obtain ⟨k, rfl⟩ := h; exact ⟨n + k, by rw [World.drewN_drewN, Nat.add_assoc]⟩))
              have HF2 : Hid (∀ n, Calls Tryz.prog 106 #[.int .u8 (x.toNat : Int), .pointer (some ⟨g3, 0, none⟩), .pointer (some ⟨g4, 0, none⟩)] (w.drewN n) fun e w'' => e = .returned (.bool true) ∧ ∃ m, w'' = w.drewN m) := hide (fun n => by
                refine (fit_cls x sf nt g3 g4 _ (⟨HBK.out.1.drewN _, HBK.out.2.drewN _⟩)).mono ?_
                rintro e w'' ⟨rfl, h⟩
                refine ⟨?_, ?_⟩
                · first | rfl | rw [HFT.out]
                · first
                    | exact ⟨n, h.symm⟩
                    | (obtain ⟨k, rfl⟩ := h; exact ⟨n + k, by rw [World.drewN_drewN]⟩))
              have HG2 := hide (HG.out.fit hatm (by rw [HSEM.out]; rfl) hlt (by rw [HSEM.out, HX.out]; exact HFT.out))
              clear HG hmany HFT
              go_wp2_with fail
              go_quiet ((go_at_call 106; first | with_reducible exact HF.out _ _ | with_reducible exact HF2.out _))
              go_wp2_with fail
              go_roundw
              case rel => exact ⟨at_ + 1, item + 1, taken, _, s, st, by go_num, by go_num, rfl, rfl, rfl, HG2, by omega, by omega, by omega, HST, hs1, hs2⟩
              case measure => simp only [intOf]; simp; omega
      · have hat' : ¬ (at_ : Int) < (es.length : Int) := by omega
        have HM := hide (misses_end (es := es.map El.sem) (it := bs) (at_ := at_) (item := item) (by rw [HL.out]; omega) hlt)
        have hgd : decide ((at_ : Int) < (es.length : Int)) = false := decide_eq_false hat'
        have hgd2 : decide (at_ < es.length) = false := decide_eq_false hat
        cases s with
        | none =>
          obtain rfl : st = -1 := HST.out
          have HO := hide (HG.out.lost HM.out)
          clear HG HST HM
          go_wp2_with fail
          go_quiet (fail)
          go_wp2_with fail
          go_ret
          exact ⟨ret_bool HO.out.symm, _, rfl⟩
        | some s =>
          obtain rfl : st = (s : Int) := HST.out
          have htl : s < es.length := by have := HG.out.taken_le.1; rw [HL.out] at this; exact this
          have HG2 := hide (HG.out.back hlt HM.out)
          have hsn : (0 : Int) ≤ (s : Int) := by omega
          clear HG HST HM
          go_wp2_with fail
          go_quiet (fail)
          go_wp2_with fail
          go_roundw
          case rel => exact ⟨s + 1, taken + 1, taken + 1, _, some s, (s : Int), by go_num, by go_num, rfl, by go_num, rfl, HG2, by omega, by omega, by omega, hide rfl, by omega, by omega⟩
          case measure => simp only [intOf]; simp; omega
    · obtain rfl : item = bs.length := by omega
      have HD := hide (HG.out.over rfl)
      have hge : ¬ (bs.length : Int) < (bs.length : Int) := by omega
      clear HG HST
      go_wp2_with fail
      go_loopw [5] (fun u5 wx => ∃ at2 : Nat, u5 = .int .i64 at2 ∧ wx = w.drewN dr ∧ at2 ≤ es.length ∧ Hid (D (es.map El.sem) bs at2 bs.length = out)) (fun u5 _ => es.length - (intOf u5).toNat)
      case atStart => exact ⟨at_, rfl, rfl, ha, HD⟩
      case round =>
        clear HD ha
        obtain ⟨at2, rfl, rfl, ha, HD⟩ := hrel
        by_cases hat : at2 < es.length
        · have hat' : (at2 : Int) < (es.length : Int) := by omega
          obtain ⟨g, o, rfl, hg, hcl⟩ := cells_of HA.out (by omega) (by rw [HE.out.1]; omega)
          obtain ⟨va, vb, hca, hcb, hev⟩ := ev_at (B := 0) (n := 0) HE.out hcl at2 hat
          have hatm : at2 < (es.map El.sem).length := by rw [HL.out]; exact hat
          have HSEM := hide (sem_get es at2 hat hatm)
          generalize es[at2] = el at *
          clear hcl hcb
          cases hmany : el.many with
          | true =>
            cases el <;> simp [El.many] at hmany
            obtain ⟨rfl, rfl⟩ := hev
            have HD2 : Hid (D (es.map El.sem) bs (at2 + 1) bs.length = out) := hide (by rw [← HD.out, D_many_past _ _ hatm (by rw [HSEM.out]; rfl) (Nat.le_refl _)])
            clear HD hmany
            go_wp2_with fail
            go_roundw
            case rel => exact ⟨at2 + 1, by go_num, by first | rfl | trivial, by omega, HD2⟩
            case measure => simp only [intOf]; simp; omega
          | false =>
            have hva : va = .bool false := by
              cases el with
              | star => simp [El.many] at hmany
              | any => exact hev.1
              | one ch => exact hev.1
              | cls sf nt => exact hev.1
            subst hva
            have HO : Hid (out = false) := hide (by rw [← HD.out, D_none _ _ hatm (by rw [HSEM.out]; exact hmany) (Nat.le_refl _)])
            have hne : ((at2 : Int) == (es.length : Int)) = false := beq_eq_false_iff_ne.2 (by omega)
            clear HD hmany hev
            go_wp2_with fail
            go_ret
            exact ⟨ret_bool HO.out.symm, _, rfl⟩
        · obtain rfl : at2 = es.length := by omega
          have HO : Hid (out = true) := hide (by rw [← HD.out, D_done _ _ (by rw [HL.out]; exact Nat.le_refl _) (Nat.le_refl _)])
          have hge2 : ¬ (es.length : Int) < (es.length : Int) := by omega
          clear HD
          go_wp2_with fail
          go_ret
          exact ⟨ret_bool HO.out.symm, _, rfl⟩
end Go.Proofs.YtaibmfahfkoahaaGreat
