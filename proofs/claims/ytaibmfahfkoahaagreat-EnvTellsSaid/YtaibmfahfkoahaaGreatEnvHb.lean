/- The contract of env.Scrub at the heads' arguments. -/
import Derived.Test.YtaibmfahfkoahaaGreatEnvHa
namespace Go.Proofs.YtaibmfahfkoahaaGreat
open Go.RowKit
set_option linter.unusedVariables false
def LH : List LB := [[65, 61, 49], [76, 68, 95, 88, 61, 50], [90, 61, 51]]
def SH : List St := [([65], [49]), ([76, 68, 95, 88], [50]), ([90], [51])]
def LS : List LB := [[65, 61, 49], [90, 61, 51]]
def LE : List LB := [[65, 61, 49], [90, 61, 52]]
theorem lh_chk : envChk LH = true := by kernel_rfl
theorem lh_read : readS LH = SH := by kernel_rfl
theorem lh_sel : (selP kmm SH).map textS = LS := by kernel_rfl
theorem lh_set : setP LS [90] [52] = (LE, 0) := by kernel_rfl
theorem sh_sel : ∀ p ∈ selP kmm SH, p.1.length ≤ 100000 ∧ p.2.length ≤ 100000 := by
  intro p hp
  have := (List.mem_filter.1 hp).1
  simp only [SH, List.mem_cons, List.not_mem_nil, or_false] at this
  rcases this with rfl | rfl | rfl <;> decide
theorem lh_len : ∀ s ∈ LH, s.length ≤ 1000000 := by
  intro s hs
  simp only [LH, List.mem_cons, List.not_mem_nil, or_false] at hs
  rcases hs with rfl | rfl | rfl <;> decide
theorem ls_len : ∀ s ∈ LS, s.length ≤ 100000 := by
  intro s hs
  simp only [LS, List.mem_cons, List.not_mem_nil, or_false] at hs
  rcases hs with rfl | rfl <;> decide
def outK (k : Nat) : List LB := if k = 3 then LE else LS
set_option maxRecDepth 100000 in
set_option maxHeartbeats 8000000 in
theorem scrub_h (A : Option Addr) (c gR cR : Nat) (w : World) (hR : Reads w w.heap.size 1 A 3 (svs LH)) (hG : Blk w gR 38 RL) :
    Calls Tryz.prog 19 #[.slice A 3 c, .slice (some ⟨gR, 0, none⟩) 3 cR] w fun e w' => ∃ A' n' c', e = .returned (.slice A' n' c') ∧ Reads w' w'.heap.size 1 A' n' (svs LE) ∧ Below w.heap.size w w' := by
  have b0 := (Below.refl w.heap.size w).alloc (Nat.le_refl _) (.cells #[.slice (some ⟨gR, 0, none⟩) 3 cR] 39)
  have X := hide (read_any LH lh_len A 3 c _ (rb hR b0) (by decide))
  rw [lh_chk, lh_read] at X
  have HB := hide b0
  have HG := hide (hG.below b0 hG.lt)
  have HQ := hide (Blk.new w 39 #[.slice (some ⟨gR, 0, none⟩) 3 cR])
  clear hR b0 hG
  go_enter Tryz.func19, Tryz.ntmps19
  go_wp2_with fail
  refine X.out.mono ?_
  rintro e w1 ⟨A1, n1, c1, rfl, hO, hn1, hb⟩
  have HO1 := hide hO.rd
  have HB1 := hide (below_more HB.out (Nat.le_refl _) hb)
  have HR1 : Hid (BoxR w.heap.size gR cR w1) := hide (by
    have h1 := HQ.out.below hb HQ.out.lt
    exact ⟨h1.lt, h1.cell 0, HG.out.below hb HG.out.lt⟩)
  clear X hO hb HQ HG HB
  obtain ⟨W2, hW2⟩ : ∃ W, w1.alloc (.cells #[.func (.func 39) #[] #[.pointer (some ⟨w.heap.size, 0, none⟩)]] 66) = W := ⟨_, rfl⟩
  have b2 : Below w1.heap.size w1 W2 := by rw [← hW2]; exact (Below.refl _ _).alloc (Nat.le_refl _) _
  have HM : Hid (BoxM w.heap.size w1.heap.size gR cR W2) := hide (by
    have h1 := Blk.new w1 66 #[.func (.func 39) #[] #[.pointer (some ⟨w.heap.size, 0, none⟩)]]
    rw [hW2] at h1
    exact ⟨h1.lt, h1.cell 0, HR1.out.keep b2⟩)
  have HO2 := hide (HO1.out.below b2)
  have HB2 := hide (below_more HB1.out (Nat.le_refl _) b2)
  have XS := hide (selm_any SH w.heap.size w1.heap.size gR cR A1 n1 c1 W2 HO2.out (by omega) HM.out (fun W W' h hb => invm_keep h hb) (fun p W h => scrub2 p _ _ _ _ W h))
  have HW2 := hide hW2
  clear hW2 b2
  go_wp2_with fail
  try rw [HW2.out]
  refine XS.out.mono ?_
  rintro e w3 ⟨A3, n3, c3, rfl, hO, hb⟩
  have HO3 := hide hO.rd
  have hn3 : n3 ≤ 100000 := by
    have := hO.rd.len
    have h2 : (selP kmm SH).length = 2 := by kernel_rfl
    omega
  have HB3 := hide (below_more HB2.out (Nat.le_refl _) hb)
  have HM3 := hide (invm_keep HM.out hb)
  clear hO hb XS
  go_wp2_with fail
  refine (texts_any _ sh_sel A3 n3 c3 _ HO3.out hn3).mono ?_
  rintro e w4 ⟨A4, n4, c4, rfl, hO, hb⟩
  rw [lh_sel] at hO
  have HR4 := hide hO.rd
  have HB4 := hide (below_more HB3.out (Nat.le_refl _) hb)
  have HM4 := hide (invm_keep HM3.out hb)
  have hq := HM4.out.2.2.1
  have cq := HM4.out.2.2.2.1
  clear hO hb
  go_wp2_with fail
  go_loopw [8, 25] (fun u8 u25 wx => ∃ (k : Nat) (A' : Option Addr) (n' c' : Nat), k ≤ 3 ∧ u25 = .int .i64 (k : Int) ∧ u8 = .slice A' n' c' ∧ n' ≤ 1000 ∧ Hid (Reads wx wx.heap.size 1 A' n' (svs (outK k))) ∧ Hid (Below w.heap.size w wx) ∧ Hid (BoxM w.heap.size w1.heap.size gR cR wx)) (fun _ u25 _ => 3 - (intOf u25).toNat)
  case atStart => exact ⟨0, A4, n4, c4, by omega, rfl, rfl, by have := HR4.out.1; rw [svs_length] at this; have h2 : LS.length = 2 := rfl; omega, HR4, HB4, HM4⟩
  case round =>
    obtain ⟨k, A', n', c', hk, rfl, rfl, hn', HO, HB, HMx⟩ := hrel
    have HG := HMx.out.2.2.2.2
    have hgl := HG.lt
    rcases (by omega : k = 0 ∨ k = 1 ∨ k = 2 ∨ k = 3) with rfl | rfl | rfl | rfl
    · have hia := fun W => rule_at gR cR 0 0 0 rfl rfl (by omega) W
      have d0 := HG.cell 0
      have d1 := HG.cell 1
      have d2 := HG.cell 2
      simp only [RL, List.getElem?_toArray, List.getElem?_cons_succ, List.getElem?_cons_zero] at d0 d1 d2
      have HBa := hide (HB.out.alloc HB.out.size (.cells #[.int .i64 1, .string ⟨#[42]⟩, .string ⟨#[]⟩] 38))
      have ba := (Below.refl wr.heap.size wr).alloc (Nat.le_refl _) (.cells #[.int .i64 1, .string ⟨#[42]⟩, .string ⟨#[]⟩] 38)
      have HOa := hide (rb HO.out ba)
      have HMa := hide (invm_keep HMx.out ba)
      clear ba
      go_wp2_with fail
      go_roundw
      case rel => exact ⟨1, A', n', c', by omega, by go_num, rfl, hn', HOa, HBa, HMa⟩
      case measure => simp [intOf]
    · have hia := fun W => rule_at gR cR 1 3 1 rfl rfl (by omega) W
      have d0 := HG.cell 3
      have d1 := HG.cell 4
      have d2 := HG.cell 5
      simp only [RL, List.getElem?_toArray, List.getElem?_cons_succ, List.getElem?_cons_zero] at d0 d1 d2
      have HBa := hide (HB.out.alloc HB.out.size (.cells #[.int .i64 2, .string ⟨#[76, 68, 95, 42]⟩, .string ⟨#[]⟩] 38))
      have ba := (Below.refl wr.heap.size wr).alloc (Nat.le_refl _) (.cells #[.int .i64 2, .string ⟨#[76, 68, 95, 42]⟩, .string ⟨#[]⟩] 38)
      have HOa := hide (rb HO.out ba)
      have HMa := hide (invm_keep HMx.out ba)
      clear ba
      go_wp2_with fail
      go_roundw
      case rel => exact ⟨2, A', n', c', by omega, by go_num, rfl, hn', HOa, HBa, HMa⟩
      case measure => simp [intOf]
    · have hia := fun W => rule_at gR cR 2 6 2 rfl rfl (by omega) W
      have d0 := HG.cell 6
      have d1 := HG.cell 7
      have d2 := HG.cell 8
      simp only [RL, List.getElem?_toArray, List.getElem?_cons_succ, List.getElem?_cons_zero] at d0 d1 d2
      have HBa := hide (HB.out.alloc HB.out.size (.cells #[.int .i64 3, .string ⟨#[90]⟩, .string ⟨#[52]⟩] 38))
      have ba := (Below.refl wr.heap.size wr).alloc (Nat.le_refl _) (.cells #[.int .i64 3, .string ⟨#[90]⟩, .string ⟨#[52]⟩] 38)
      have HOa := hide (rb HO.out ba)
      have HMa := hide (invm_keep HMx.out ba)
      clear ba
      go_wp2_with fail
      refine (right3 _).mono ?_
      rintro e w6 ⟨rfl, hb⟩
      have b6 := (Blk.new wr 38 #[.int .i64 3, .string ⟨#[90]⟩, .string ⟨#[52]⟩]).below hb (by simp)
      have e0 := b6.cell 0
      have e1 := b6.cell 1
      have e2 := b6.cell 2
      simp only [List.getElem?_toArray, List.getElem?_cons_succ, List.getElem?_cons_zero] at e0 e1 e2
      have HO6 := hide (rb HOa.out hb)
      have HB6 := hide (below_more HBa.out (Nat.le_refl _) hb)
      have HM6 := hide (invm_keep HMa.out hb)
      clear hb b6 HG d0 d1 d2
      have XS := hide (set_any LS ls_len [90] [52] (by decide) (by decide) A' n' c' w6 HO6.out (by omega))
      rw [lh_set] at XS
      go_wp2_with fail
      refine XS.out.mono ?_
      rintro e w7 ⟨A7, n7, c7, rfl, hO, hb⟩
      have HO7 := hide hO.rd
      have hn7 : n7 ≤ 1000 := by have := hO.rd.1; rw [svs_length] at this; have h2 : LE.length = 2 := rfl; omega
      have HB7 := hide (below_more HB6.out (Nat.le_refl _) hb)
      have HM7 := hide (invm_keep HM6.out hb)
      clear hb hO XS
      go_wp2_with fail
      go_roundw
      case rel => exact ⟨3, A7, n7, c7, by omega, by go_num, rfl, hn7, HO7, HB7, HM7⟩
      case measure => simp [intOf]
    · go_wp2_with fail
      go_ret
      first | exact ⟨A', n', c', rfl, HO.out, HB.out⟩ | exact ⟨A', ⟨n', c', rfl⟩, HO.out, HB.out⟩ | exact ⟨A', n', ⟨c', rfl⟩, HO.out, HB.out⟩
end Go.Proofs.YtaibmfahfkoahaaGreat
