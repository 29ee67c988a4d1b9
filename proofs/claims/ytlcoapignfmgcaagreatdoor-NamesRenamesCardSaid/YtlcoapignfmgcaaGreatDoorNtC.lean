/- The document's Rename. -/
import Derived.Test.YtlcoapignfmgcaaGreatDoorNtB
import Derived.Test.YtlcoapignfmgcaaGreatDoorNsD
import Derived.Deep.CutBlock
namespace Go.Proofs.YtlcoapignfmgcaaGreatDoor
open Go.RowKit
set_option linter.unusedVariables false
set_option maxRecDepth 100000 in
set_option maxHeartbeats 8000000 in
theorem rat_m (L : Option Addr) (n c : Nat) (l : List DV) (m : Nat) (s : List UInt8) (w : World) (hF : FsR w w.heap.size L n l) (hB : ∀ x ∈ l, x.mn ≤ 1000) (hm : m < n) (hs : sortedP (ndAt (nds l) (m : Int)).names) :
    Calls Tryz.prog 39 #[.agg #[.slice L n c], .int .i64 (m : Int), .string ⟨s.toArray⟩] w fun e w' => e = .returned (.int .i64 (atP (ndAt (nds l) (m : Int)).names s)) ∧ Below w.heap.size w w' := by
  obtain ⟨g, o, x, rfl, hg, hx, hok, hc⟩ := hF.at_ hm
  obtain ⟨W1, hW1⟩ : ∃ W, w.alloc (.cells #[.slice (some ⟨g, o, none⟩) n c] 24) = W := ⟨_, rfl⟩
  have h1 : Blk W1 w.heap.size 24 #[.slice (some ⟨g, o, none⟩) n c] := by rw [← hW1]; exact Blk.new w _ _
  have b1 : Below w.heap.size w W1 := by rw [← hW1]; exact on_alloc _ _
  have HM := hide (fun (W : World) (hW : Below w.heap.size w W) => (hok.n.below hW).more hW.size)
  have HMN := hide (hB x (List.mem_of_getElem? hx))
  have HNL := hide hok.nl
  obtain ⟨d0, d1, d2, d3, d4, d5⟩ := NdCells.below hc hg b1
  rw [nds_at hx] at hs ⊢
  have HS := hide hs
  have i1 := fun W => nd_at g o n c m (m : Int) rfl hm W
  obtain ⟨R, hR⟩ : ∃ R, atP x.r.names s = R := ⟨_, rfl⟩
  have HR := hide hR
  rw [hR]
  have HB := hide b1
  have k0 := one_ h1
  clear hx hok hc hF hB h1 b1 hs hR
  go_enter Tryz.func39, Tryz.ntmps39
  go_wp2_with (rw [hW1])
  clear hW1 k0 d0 d1 d2 d3 d4 d5 i1
  go_loopw [8] (fun u8 wx => ∃ i : Nat, i ≤ x.mn ∧ u8 = .int .i64 (i : Int) ∧ Hid (∀ j, j < i → nmAt x.r.names j ≠ s) ∧ Hid (Below w.heap.size w wx)) (fun i _ => x.mn - (intOf i).toNat)
  case atStart => exact ⟨0, Nat.zero_le _, rfl, hide (fun j h => by omega), HB⟩
  case round =>
    clear HB
    obtain ⟨i, hi, rfl, HJ, HBJ⟩ := hrel
    have hmx := HMN.out
    by_cases hin : i < x.mn
    · have hlt : (i : Int) < (x.mn : Int) := by omega
      obtain ⟨g', o', y, hM, hg', hy, n0, n1⟩ := nm_cells (HM.out wr HBJ.out) hin
      rw [hM]
      have i2 := fun W => nm_at g' o' x.mn x.mc i (i : Int) rfl hin W
      have HY := hide (nmAt_get hy)
      obtain ⟨ys, hys⟩ : ∃ ys, y.name = ys := ⟨_, rfl⟩
      rw [hys] at HY n0
      clear hy hM hys n1
      by_cases he : ys = s
      · subst he
        have hRe : R = (i : Int) := by rw [← HR.out]; exact at_here HS.out (by rw [HNL.out]; omega) HY.out
        subst hRe
        clear HR
        go_wp2_with fail
        go_ret
        exact ⟨rfl, HBJ.out⟩
      · have hne : (ys == s) = false := beq_eq_false_iff_ne.2 he
        have HJ1 : Hid (∀ j, j < i + 1 → nmAt x.r.names j ≠ s) := hide (fun j hj => by
          rcases Nat.lt_or_ge j i with h | h
          · exact HJ.out j h
          · obtain rfl : j = i := by omega
            rw [HY.out]; exact he)
        clear he
        go_wp2_with fail
        go_roundw
        case rel => exact ⟨i + 1, by omega, by go_num, HJ1, HBJ⟩
        case measure => simp [intOf]; omega
    · have hlt : ¬ ((i : Int) < (x.mn : Int)) := by omega
      have hie : i = x.mn := by omega
      have hRe : R = -1 := by rw [← HR.out]; exact at_none (fun j hj => HJ.out j (by rw [HNL.out] at hj; omega))
      subst hRe
      clear HR
      go_wp2_with fail
      go_ret
      exact ⟨rfl, HBJ.out⟩
theorem first3_1 {e f g : Int} (h : e ≠ 0) : firstP [e, f, g] = e := by simp [firstP, h]
theorem first3_2 {f g : Int} (h : f ≠ 0) : firstP [0, f, g] = f := by simp [firstP, h]
theorem first3_3 {g : Int} : firstP [0, 0, g] = g := by by_cases h : g = 0 <;> simp [firstP, h]
theorem writable_dir {l : List ND} {d : Int} (h : writableP l d = 0) : (ndAt l d).kind = 2 ∧ (ndAt l d).links ≠ 0 := by
  unfold writableP at h
  split at h
  · split at h
    · cases h
    · rename_i h1 h2
      exact ⟨h1, h2⟩
  · cases h
theorem named_live {l : List ND} (h : checkB l = true) {a k : Nat} (ha : a < l.length) (hk : k < l.length) {s : List UInt8} (hl : lkP l (a : Int) s = ((k : Int), true)) : k ≠ 0 ∧ (ndAt l (k : Int)).links ≠ 0 := by
  obtain ⟨y, hy, hyk, hys, hym⟩ := lk_sorted h ha hl
  have hck : 1 ≤ cnt l (k : Int) := cnt_one (ndAt_mem hym).1 hym hyk
  have hk0 : k ≠ 0 := fun e => by
    subst e
    have h2 : cnt l ((0 : Nat) : Int) = 0 := (root_dir h).2.2
    omega
  have hkl := links_eq h hk hk0
  exact ⟨hk0, by omega⟩
theorem rem_sorted {l : List ND} (h : checkB l = true) {d k : Nat} (hd : d < l.length) (hk : k < l.length) {s : List UInt8} (hl : lkP l (d : Int) s = ((k : Int), true)) {p : Nat} (hp : p < l.length) : sortedP (ndAt (remP l (d : Int) s) (p : Int)).names := by
  have C := chg_rem hd hk (s := s) (by rw [hl])
  have hn : ∀ i : Int, (ndAt (remP l (d : Int) s) i).names = if i.toNat = d then remN (ndAt l (d : Int)).names s else (ndAt l i).names := C.names
  rw [hn, Int.toNat_natCast]
  split
  · exact remN_sorted (at_sorted h hd) s
  · exact at_sorted h hp
theorem okay_of {B C : Nat} {w : World} {L : Option Addr} {n c : Nat} {Z : List DV} {l' : List ND} (hO : OG B C w L n c Z) (hR : nds Z = l') (hl : SmallL l') : Okay Z := fun x hx => by
  have h1 : x.r ∈ l' := by rw [← hR]; unfold nds; exact List.mem_map.2 ⟨x, hx, rfl⟩
  have h2 := hl _ h1
  have h3 := (hO.ok x hx).nl
  omega
theorem small_ck {l : List ND} (h : checkB l = true) (hA : (allNames l).length ≤ 100000) (hM : ∀ i : Nat, i < l.length → (ndAt l (i : Int)).names.length ≤ 200) : SmallL l := fun n hn => by
  have h2 := links_small h hA n hn
  obtain ⟨i, hi, rfl⟩ := mem_at hn
  have h1 := hM i hi
  omega
/-- What is at hand ahead of the old name's going. -/
structure Gone (l1 : List ND) (n m p kk : Nat) (old : List UInt8) : Prop where
  ck : checkB l1 = true
  lk : lkP l1 (m : Int) old = ((kk : Int), true)
  an : (allNames l1).length ≤ 100000
  nm : ∀ i : Nat, i < l1.length → (ndAt l1 (i : Int)).names.length ≤ 200
  ln : l1.length = n
theorem re_1 {l : List ND} {k q : Int} (hq : (ndAt l q).kind = 2) (hk : ¬ (ndAt l k).kind = 2) : replaceP l k q = 23 := by unfold replaceP; rw [if_pos ⟨hq, hk⟩]
theorem re_2 {l : List ND} {k q : Int} (hq : ¬ (ndAt l q).kind = 2) (hk : (ndAt l k).kind = 2) : replaceP l k q = 22 := by unfold replaceP; rw [if_neg (fun h => hq h.1), if_pos ⟨hk, hq⟩]
theorem re_3 {l : List ND} {k q : Int} (h : ((ndAt l q).kind == 2) = ((ndAt l k).kind == 2)) (hn : (ndAt l q).names ≠ []) : replaceP l k q = 26 := by
  have e : (ndAt l q).kind = 2 ↔ (ndAt l k).kind = 2 := ⟨fun a => by rw [a] at h; exact beq_iff_eq.1 (h.symm.trans (by rfl)), fun a => by rw [a] at h; exact beq_iff_eq.1 (h.trans (by rfl))⟩
  unfold replaceP
  rw [if_neg (fun q => q.2 (e.1 q.1)), if_neg (fun q => q.2 (e.2 q.1)), if_neg (by simp [hn])]
theorem re_4 {l : List ND} {k q : Int} (h : ((ndAt l q).kind == 2) = ((ndAt l k).kind == 2)) (hn : (ndAt l q).names = []) : replaceP l k q = 0 := by
  have e : (ndAt l q).kind = 2 ↔ (ndAt l k).kind = 2 := ⟨fun a => by rw [a] at h; exact beq_iff_eq.1 (h.symm.trans (by rfl)), fun a => by rw [a] at h; exact beq_iff_eq.1 (h.trans (by rfl))⟩
  unfold replaceP
  rw [if_neg (fun q => q.2 (e.1 q.1)), if_neg (fun q => q.2 (e.2 q.1)), if_pos (by rw [hn]; rfl)]
set_option maxRecDepth 100000 in
set_option maxHeartbeats 32000000 in
theorem rrename_c (L : Option Addr) (n c : Nat) (X : List DV) (a b : Int) (old s : List UInt8) (w : World) (hF : FsR w w.heap.size L n X) (hB : FewB X) (hsl : s.length ≤ 1000000) :
    Calls Tryz.prog 17 #[.agg #[.slice L n c], .int .i64 a, .string ⟨old.toArray⟩, .int .i64 b, .string ⟨s.toArray⟩] w (RefEnd w (renameP (nds X) a old b s).1 [.int .i64 (renameP (nds X) a old b s).2]) := by
  have hl := hF.len
  have hln : (nds X).length = n := by rw [nds_length, hl]
  obtain ⟨W1, hW1⟩ : ∃ W, (w.alloc (.cells #[.slice L n c] 24)).alloc (.cells #[.slice none 0 0] 24) = W := ⟨_, rfl⟩
  have HX : Hid (Blk W1 w.heap.size 24 #[.slice L n c]) := hide (by rw [← hW1]; exact (Blk.new w _ _).alloc _)
  have HY : Hid (Blk W1 (w.heap.size + 1) 24 #[.slice none 0 0]) := hide (by rw [← hW1]; have := Blk.new (w.alloc (.cells #[.slice L n c] 24)) 24 #[.slice none 0 0]; simpa only [World.size_alloc] using this)
  have b1 : Below w.heap.size w W1 := by rw [← hW1]; exact (on_alloc w _).trans ((on_alloc _ _).mono (by simp))
  have HF := hide (fun (W : World) (hW : Below w.heap.size w W) => (hF.below hW).more hW.size)
  have HHI := hide (fun (x : DV) (hx : x ∈ X) => hi_of (hF.ok x hx).d)
  have HFW := hide hB
  have HB := hide b1
  have HLN := hide hln
  have XK := hide (rknown_c L n c X a b W1 (HF.out W1 b1) hB)
  obtain ⟨hk, hhk⟩ : ∃ q, hasP (nds X) [a, b] = q := ⟨_, rfl⟩
  rw [hhk] at XK
  have HH := hide hhk
  obtain ⟨T, hT⟩ : ∃ T, renameP (nds X) a old b s = T := ⟨_, rfl⟩
  have HT := hide hT
  rw [hT]
  have k0 := one_ HX.out
  clear hF hB b1 hl hln hhk hT
  go_enter Tryz.func17, Tryz.ntmps17
  go_wp2_with (rw [hW1])
  refine XK.out.mono ?_
  rintro e w2 ⟨rfl, hb2⟩
  have HX2 := hide (HX.out.below hb2 HX.out.lt)
  have HY2 := hide (HY.out.below hb2 HY.out.lt)
  have HB2 := hide (HB.out.trans (hb2.mono HB.out.size))
  clear hb2 k0 HX HB XK hW1 HY
  cases hk with
  | false =>
    have hTe : T = (nds X, 2) := by rw [← HT.out]; exact ren_0 HH.out
    subst hTe
    have k5 := one_ HX2.out
    have k6 := HY2.out.frozen 0
    have k7 := one_ HY2.out
    have k8 := HY2.out.lt
    have HBE : Hid (Below w.heap.size w (w2.setCell ⟨w.heap.size + 1, 0, none⟩ (.slice L n c))) := hide (HB2.out.setCell (p := ⟨w.heap.size + 1, 0, none⟩) (by show w.heap.size ≤ w.heap.size + 1; omega) _)
    clear HT
    go_wp2_with fail
    refine bodyPost_ret (v := .tuple #[.agg #[.slice L n c], .int .i64 2]) (by simp only [results, Tryz.results17]; go_simp) rfl ?_
    first | exact ⟨L, n, c, X, rfl, HF.out _ HBE.out, rfl, HBE.out⟩ | exact ⟨L, n, c, rfl, X, HF.out _ HBE.out, rfl, HBE.out⟩
  | true =>
    obtain ⟨m, rfl, hml⟩ := hasP_in HH.out (List.mem_cons_self ..)
    obtain ⟨p, rfl, hpl⟩ := hasP_in HH.out (List.mem_cons_of_mem _ (List.mem_singleton.2 rfl))
    have hm : m < n := by have := HLN.out; omega
    have hp : p < n := by have := HLN.out; omega
    have HCK := hide (hasP_check HH.out)
    have HMO := hide (at_mode HCK.out hml)
    have HSO := hide (at_sorted HCK.out hml)
    have HMP := hide (at_mode HCK.out hpl)
    have HSP := hide (at_sorted HCK.out hpl)
    have HML := hide (And.intro hml hpl)
    have k0 := one_ HX2.out
    have XN := hide (fun (W : World) => rname_any s W hsl)
    obtain ⟨E, hE⟩ : ∃ E, nameC s = E := ⟨_, rfl⟩
    rw [hE] at XN
    have HE := hide hE
    clear hE hml hpl
    go_wp2_with fail
    refine (XN.out _).mono ?_
    rintro e w3 ⟨rfl, hw⟩
    subst hw
    clear XN k0
    by_cases h0 : E = 0
    · subst h0
      have XW := hide (rchanged_c L n c X m w2 (HF.out w2 HB2.out) hm HMO.out)
      obtain ⟨E, hE⟩ : ∃ E, writableP (nds X) (m : Int) = E := ⟨_, rfl⟩
      rw [hE] at XW
      have HE1 := hide hE
      clear hE
      have k0 := one_ HX2.out
      go_wp2_with fail
      refine XW.out.mono ?_
      rintro e w4 ⟨rfl, hb4⟩
      have HX4 := hide (HX2.out.below hb4 HX2.out.lt)
      have HY4 := hide (HY2.out.below hb4 HY2.out.lt)
      have HB4 := hide (HB2.out.trans (hb4.mono HB2.out.size))
      clear hb4 k0 HX2 HB2 XW HY2
      by_cases h0 : E = 0
      · subst h0
        have XW := hide (rchanged_c L n c X p w4 (HF.out w4 HB4.out) hp HMP.out)
        obtain ⟨E, hE⟩ : ∃ E, writableP (nds X) (p : Int) = E := ⟨_, rfl⟩
        rw [hE] at XW
        have HE2 := hide hE
        clear hE
        have k0 := one_ HX4.out
        go_wp2_with fail
        refine XW.out.mono ?_
        rintro e w5 ⟨rfl, hb5⟩
        have HX5 := hide (HX4.out.below hb5 HX4.out.lt)
        have HY5 := hide (HY4.out.below hb5 HY4.out.lt)
        have HB5 := hide (HB4.out.trans (hb5.mono HB4.out.size))
        clear hb5 k0 HX4 HB4 XW HY4
        by_cases h0 : E = 0
        · subst h0
          have HFF : Hid (firstP [nameC s, writableP (nds X) (m : Int), writableP (nds X) (p : Int)] = 0) := hide (by rw [HE.out, HE1.out, HE2.out]; rfl)
          have XA := hide (rat_c L n c X m old w5 (HF.out w5 HB5.out) HFW.out hm HSO.out)
          rcases at_lk HSO.out (s := old) with ⟨y, ha, hy, hlk⟩ | ⟨ha, hlk⟩
          · rw [ha] at XA
            obtain ⟨kk, hyk, hkl⟩ := lk_in HCK.out HML.out.1 hlk
            rw [hyk] at hlk
            have hk : kk < n := by have := HLN.out; omega
            have HLK := hide hlk
            have HLV := hide (named_live HCK.out HML.out.1 hkl hlk)
            have HKL := hide hkl
            have HY0 := hide hy
            have HYK := hide hyk
            obtain ⟨F, hF⟩ : ∃ F, findP (ndAt (nds X) (m : Int)).names old = F := ⟨_, rfl⟩
            have HFD := hide hF
            rw [hF] at XA
            have hge : (0 : Int) ≤ (F : Int) := by omega
            clear ha hlk hy hF hyk hkl
            have k0 := one_ HX5.out
            go_wp2_with fail
            refine XA.out.mono ?_
            rintro e w6 ⟨rfl, hb6⟩
            have HX6 := hide (HX5.out.below hb6 HX5.out.lt)
            have HY6 := hide (HY5.out.below hb6 HY5.out.lt)
            have HB6 := hide (HB5.out.trans (hb6.mono HB5.out.size))
            clear hb6 k0 HX5 HB5 XA HY5
            obtain ⟨g0, o0, x, hL, hg0, hx, hxok, hxc⟩ := (HF.out w6 HB6.out).at_ hm
            obtain ⟨g1, o1, z, hL1, hg1, hz, hzok, hzc⟩ := (HF.out w6 HB6.out).at_ hk
            have hyx : x.r.names[F]? = some y := by have h := HY0.out; rw [nds_at hx, ← nds_at hx, HFD.out] at h; rw [nds_at hx] at h; exact h
            have hFx : F < x.mn := by have h1 := (List.getElem?_eq_some_iff.1 hyx).1; have h2 := hxok.nl; omega
            obtain ⟨gn, on, y', hM, hgn, hy', n0, n1⟩ := nm_cells hxok.n hFx
            obtain rfl : y = y' := by rw [hyx] at hy'; injection hy'
            rw [HYK.out] at n1
            have d4 := hxc.2.2.2.2.1
            have c0 := hzc.1
            have i1 := fun W => nd_atA hL n c m (m : Int) rfl hm W
            have i2 := fun W => nd_atA hL1 n c kk (kk : Int) rfl hk W
            have i3 := fun W => nm_atA hM x.mn x.mc F (F : Int) rfl hFx W
            obtain ⟨kd, hkd⟩ : ∃ kd, z.r.kind = kd := ⟨_, rfl⟩
            rw [hkd] at c0
            have HKD : Hid ((ndAt (nds X) (kk : Int)).kind = kd) := hide (by rw [nds_at hz]; exact hkd)
            have k0 := one_ HX6.out
            clear hL hL1 hx hxok hxc hz hzok hzc hyx hM hy' n0 hg0 hg1 hgn hkd
            obtain ⟨db, HDB⟩ : ∃ db, Hid (db = (kd == 2)) := ⟨_, hide rfl⟩
            go_upto_region 17 with (fail)
            rw [← HDB.out]
            obtain ⟨wi, HWI⟩ : ∃ wi, Hid ((isDir (nds X) (kk : Int) && withinP (nds X) (p : Int) (kk : Int)) = wi) := ⟨_, hide rfl⟩
            go_cut [76] (fun u76 wx => u76 = .bool wi ∧ Hid (Blk wx w.heap.size 24 #[.slice L n c]) ∧ Hid (Blk wx (w.heap.size + 1) 24 #[.slice none 0 0]) ∧ Hid (Below w.heap.size w wx))
            case first =>
              have hid : isDir (nds X) (kk : Int) = db := by unfold isDir; rw [HKD.out, HDB.out]
              have HID := hide hid
              clear hid
              cases db with
              | false =>
                have hwi : wi = false := by rw [← HWI.out, HID.out]; rfl
                subst hwi
                go_wp2_with fail
                go_meet
                exact ⟨rfl, HX6, HY6, HB6⟩
              | true =>
                have hkk : (ndAt (nds X) (kk : Int)).kind = 2 := by have h := HID.out; unfold isDir at h; exact beq_iff_eq.1 h
                have XI := hide (rwithin_c L n c X (p : Int) (kk : Int) w6 (HF.out w6 HB6.out) HFW.out)
                have hup := up_within HCK.out HKL.out hkk HLV.out.2 HLV.out.1 HML.out.2 (writable_dir HE2.out).1 (writable_dir HE2.out).2
                rw [HLN.out] at hup
                have hwi : withinP (nds X) (p : Int) (kk : Int) = wi := by rw [← HWI.out, HID.out]; rfl
                rw [hup, hwi] at XI
                clear hup hkk hwi
                go_wp2_with fail
                refine XI.out.mono ?_
                rintro e w7 ⟨rfl, hb7⟩
                have HX7 := hide (HX6.out.below hb7 HX6.out.lt)
                have HY7 := hide (HY6.out.below hb7 HY6.out.lt)
                have HB7 := hide (HB6.out.trans (hb7.mono HB6.out.size))
                clear hb7 k0 HX6 HB6 XI HY6
                go_wp2_with fail
                go_meet
                exact ⟨rfl, HX7, HY7, HB7⟩
            case rest =>
              obtain ⟨rfl, HX7, HY7, HB7⟩ := hcut
              obtain ⟨w7, hw7⟩ : ∃ W, W = wc := ⟨_, rfl⟩
              subst hw7
              clear HX6 HY6 HB6 k0 d4 c0 i1 i2 i3 n1
              cases wi with
              | true =>
                have hTe : T = (nds X, 32) := by rw [← HT.out]; exact ren_3 HH.out HFF.out HLK.out HWI.out
                subst hTe
                have k5 := one_ HX7.out
                have k6 := HY7.out.frozen 0
                have k7 := one_ HY7.out
                have k8 := HY7.out.lt
                have HBE : Hid (Below w.heap.size w (w7.setCell ⟨w.heap.size + 1, 0, none⟩ (.slice L n c))) := hide (HB7.out.setCell (p := ⟨w.heap.size + 1, 0, none⟩) (by show w.heap.size ≤ w.heap.size + 1; omega) _)
                clear HT
                go_wp2_with fail
                refine bodyPost_ret (v := .tuple #[.agg #[.slice L n c], .int .i64 32]) (by simp only [results, Tryz.results17]; go_simp) rfl ?_
                first | exact ⟨L, n, c, X, rfl, HF.out _ HBE.out, rfl, HBE.out⟩ | exact ⟨L, n, c, rfl, X, HF.out _ HBE.out, rfl, HBE.out⟩
              | false =>
                have XC := hide (rcopied_c L n c X w.heap.size w7 (HF.out w7 HB7.out) HFW.out HB7.out.size HHI.out)
                have k0 := one_ HX7.out
                go_wp2_with fail
                refine XC.out.mono ?_
                rintro e w8 ⟨L', c', X', rfl, hO, hR, hb8⟩
                obtain ⟨W9, hW9⟩ : ∃ W, w8.alloc (.cells #[.slice L' n c'] 24) = W := ⟨_, rfl⟩
                have b9 : Below w8.heap.size w8 W9 := by rw [← hW9]; exact on_alloc _ _
                have b39 := hb8.trans (b9.mono hb8.size)
                obtain ⟨g, rfl, hgC, hgl⟩ := hO.addr (by omega)
                have HP9 : Hid (Blk W9 w8.heap.size 24 #[.slice (some ⟨g, 0, none⟩) n c']) := hide (by rw [← hW9]; exact Blk.new w8 _ _)
                have HX9 := hide (HX7.out.below b39 HX7.out.lt)
                have HY9 := hide (HY7.out.below b39 HY7.out.lt)
                have HO9 := hide (hO.below b9)
                have HB9 := hide (HB7.out.trans (b39.mono HB7.out.size))
                have HR := hide hR
                have HYl := hide HY7.out.lt
                have HXl := hide HX7.out.lt
                have HBi := hide HB7.out.size
                have HS8 := hide hb8.size
                have HC9 := hide b39.size
                have HPG : Hid (w8.heap.size ≠ g) := hide (by omega)
                have XA := hide (rat_c L n c X p s W9 (HF.out W9 HB9.out) HFW.out hp HSP.out)
                clear hO hR hb8 b9 b39 XC k0 HX7 HB7 HY7 hgC hgl
                have k0 := one_ HX9.out
                rcases at_lk HSP.out (s := s) with ⟨yb, ha, hy, hlk⟩ | ⟨ha, hlk⟩
                · rw [ha] at XA
                  obtain ⟨q, hyk, hql⟩ := lk_in HCK.out HML.out.2 hlk
                  rw [hyk] at hlk
                  have hq : q < n := by have := HLN.out; omega
                  have HL2 := hide hlk
                  have HYB := hide hy
                  have HYKB := hide hyk
                  obtain ⟨F2, hF2⟩ : ∃ F, findP (ndAt (nds X) (p : Int)).names s = F := ⟨_, rfl⟩
                  have HFD2 := hide hF2
                  rw [hF2] at XA
                  have hge2 : (0 : Int) ≤ (F2 : Int) := by omega
                  clear ha hlk hy hF2 hyk hql
                  go_wp2_with (rw [hW9])
                  refine XA.out.mono ?_
                  rintro e w10 ⟨rfl, hb10⟩
                  clear k0
                  have HX10 := hide (HX9.out.below hb10 HX9.out.lt)
                  have HY10 := hide (HY9.out.below hb10 HY9.out.lt)
                  have HP10 := hide (HP9.out.below hb10 HP9.out.lt)
                  have HO10 := hide (HO9.out.below hb10)
                  have HB10 := hide (HB9.out.trans (hb10.mono HB9.out.size))
                  clear hb10 HX9 HY9 HP9 HO9 HB9
                  obtain ⟨g0b, o0b, xb, hLb, hg0b, hxb, hxokb, hxcb⟩ := (HF.out w10 HB10.out).at_ hp
                  obtain ⟨g1b, o1b, zb, hL1b, hg1b, hzb, hzokb, hzcb⟩ := (HF.out w10 HB10.out).at_ hq
                  have hyxb : xb.r.names[F2]? = some yb := by have h := HYB.out; rw [nds_at hxb, ← nds_at hxb, HFD2.out] at h; rw [nds_at hxb] at h; exact h
                  have hFxb : F2 < xb.mn := by have h1 := (List.getElem?_eq_some_iff.1 hyxb).1; have h2 := hxokb.nl; omega
                  obtain ⟨gnb, onb, y', hMb, hgnb, hy', n0, n1⟩ := nm_cells hxokb.n hFxb
                  obtain rfl : yb = y' := by rw [hyxb] at hy'; injection hy'
                  rw [HYKB.out] at n1
                  have d4b := hxcb.2.2.2.2.1
                  have c0b := hzcb.1
                  have c4b := hzcb.2.2.2.2.1
                  have i1b := fun W => nd_atA hLb n c p (p : Int) rfl hp W
                  have i2b := fun W => nd_atA hL1b n c q (q : Int) rfl hq W
                  have i3b := fun W => nm_atA hMb xb.mn xb.mc F2 (F2 : Int) rfl hFxb W
                  obtain ⟨kq, hkq⟩ : ∃ kq, zb.r.kind = kq := ⟨_, rfl⟩
                  rw [hkq] at c0b
                  have HKQ : Hid ((ndAt (nds X) (q : Int)).kind = kq) := hide (by rw [nds_at hzb]; exact hkq)
                  have HNZ : Hid ((ndAt (nds X) (q : Int)).names = zb.r.names) := hide (by rw [nds_at hzb])
                  have HZL := hide hzokb.nl
                  obtain ⟨zn, hzn2⟩ : ∃ zn, zb.mn = zn := ⟨_, rfl⟩
                  have hzn : zn ≤ 1000 := by have h1 := (HFW.out.each zb (List.mem_of_getElem? hzb)).n; have h2 := hzokb.nl; omega
                  rw [hzn2] at c4b
                  have HZN2 := hide hzn2
                  have k0 := one_ HX10.out
                  clear hLb hL1b hxb hxokb hxcb hzb hzokb hzcb hyxb hMb hy' n0 hg0b hg1b hgnb hkq hzn2
                  by_cases hqk : q = kk
                  · subst hqk
                    have hTe : T = (nds X, 0) := by rw [← HT.out]; exact ren_4 HH.out HFF.out HLK.out HWI.out HL2.out
                    subst hTe
                    have k5 := one_ HX10.out
                    have k6 := HY10.out.frozen 0
                    have k7 := one_ HY10.out
                    have k8 := HY10.out.lt
                    have HBE : Hid (Below w.heap.size w (w10.setCell ⟨w.heap.size + 1, 0, none⟩ (.slice L n c))) := hide (HB10.out.setCell (p := ⟨w.heap.size + 1, 0, none⟩) (by show w.heap.size ≤ w.heap.size + 1; omega) _)
                    clear HT
                    go_wp2_with fail
                    refine bodyPost_ret (v := .tuple #[.agg #[.slice L n c], .int .i64 0]) (by simp only [results, Tryz.results17]; go_simp) rfl ?_
                    first | exact ⟨L, n, c, X, rfl, HF.out _ HBE.out, rfl, HBE.out⟩ | exact ⟨L, n, c, rfl, X, HF.out _ HBE.out, rfl, HBE.out⟩
                  · have hqi : (q : Int) ≠ (kk : Int) := by omega
                    have hqb : ((q : Int) == (kk : Int)) = false := beq_eq_false_iff_ne.2 hqi
                    have HQK := hide hqi
                    clear hqk hqi
                    by_cases hq2 : kq = 2
                    · have hq3 : (kq == 2) = true := beq_iff_eq.2 hq2
                      have HQ2 := hide hq3
                      clear hq2
                      cases db with
                      | false =>
                        have HRE := hide (re_1 (k := (kk : Int)) (q := (q : Int)) (l := nds X) (by rw [HKQ.out]; exact beq_iff_eq.1 HQ2.out) (by rw [HKD.out]; exact fun e => by have h := HDB.out; rw [e] at h; cases h))
                        have hTe : T = (nds X, 23) := by rw [← HT.out]; exact ren_5 HH.out HFF.out HLK.out HWI.out HL2.out HQK.out HRE.out (by omega)
                        subst hTe
                        have k5 := one_ HX10.out
                        have k6 := HY10.out.frozen 0
                        have k7 := one_ HY10.out
                        have k8 := HY10.out.lt
                        have HBE : Hid (Below w.heap.size w (w10.setCell ⟨w.heap.size + 1, 0, none⟩ (.slice L n c))) := hide (HB10.out.setCell (p := ⟨w.heap.size + 1, 0, none⟩) (by show w.heap.size ≤ w.heap.size + 1; omega) _)
                        clear HT
                        go_wp2_with fail
                        refine bodyPost_ret (v := .tuple #[.agg #[.slice L n c], .int .i64 23]) (by simp only [results, Tryz.results17]; go_simp) rfl ?_
                        first | exact ⟨L, n, c, X, rfl, HF.out _ HBE.out, rfl, HBE.out⟩ | exact ⟨L, n, c, rfl, X, HF.out _ HBE.out, rfl, HBE.out⟩
                      | true =>
                        have HEQ : Hid (((ndAt (nds X) (q : Int)).kind == 2) = ((ndAt (nds X) (kk : Int)).kind == 2)) := hide (by rw [HKQ.out, HKD.out, ← HDB.out]; exact HQ2.out)
                        by_cases hz0 : zn = 0
                        · subst hz0
                          have hnm : zb.r.names = [] := List.eq_nil_of_length_eq_zero (by rw [HZL.out, HZN2.out])
                          have HRE := hide (re_4 (k := (kk : Int)) (q := (q : Int)) (l := nds X) HEQ.out (by rw [HNZ.out]; exact hnm))
                          clear hnm
                          have XD := hide (rdrop_c w.heap.size w7.heap.size g n c' p q F2 X' s yb w10 HO10.out HBi.out (by have h1 := HP10.out.lt; have h2 := HS8.out; omega) (smallG HO10.out HFW.out HR.out HCK.out) hp hq (by rw [HR.out]; exact HFD2.out) (by rw [HR.out, ← HFD2.out]; exact HYB.out) HYKB.out (by rw [HR.out, HL2.out]))
                          have k1 := one_ HP10.out
                          go_wp2_with fail
                          refine XD.out.mono ?_
                          rintro e w11 ⟨rfl, X2, hO2, hR2, hb2, hn2⟩
                          have HX11 := hide (HX10.out.below hb2 HXl.out)
                          have HY11 := hide (HY10.out.below hb2 HYl.out)
                          have HP11 := hide (hn2 _ _ _ HPG.out HP10.out)
                          have HO11 := hide hO2
                          have HB11 := hide (HB10.out.trans (hb2.mono HBi.out))
                          obtain ⟨l1, hl1⟩ : ∃ l1, remP (nds X) (p : Int) s = l1 := ⟨_, rfl⟩
                          have HZN : Hid (nds X2 = l1) := hide (by rw [hR2, HR.out]; exact hl1)
                          have HGN : Hid (Gone l1 n m p kk old) := hide (by
                            obtain ⟨c1, c2, c3, c4, c5⟩ := ren_mid HCK.out HML.out.1 HML.out.2 HLK.out HL2.out HQK.out HRE.out
                            rw [hl1] at c1 c2 c3 c4 c5
                            exact ⟨c1, c2, Nat.le_trans c4 (names_few HFW.out), c5 200 (few_names HFW.out), c3.trans HLN.out⟩)
                          have HTT : Hid (T = (insP (remP l1 (m : Int) old) (p : Int) s (kk : Int), 0)) := hide (by rw [← hl1, ← HT.out]; exact ren_6 HH.out HFF.out HLK.out HWI.out HL2.out HQK.out HRE.out)
                          clear hl1 HT hO2 hR2 hb2 hn2 XD k1 HX10 HY10 HP10 HO10 HB10 d4b c0b c4b n1 i1b i2b i3b hqb hq3 hge2
                          clear XA k0
                          have hlm : m < l1.length := by have := HGN.out.ln; omega
                          have hlp : p < l1.length := by have := HGN.out.ln; omega
                          have hlk : kk < l1.length := by have := HGN.out.ln; omega
                          have HS3 := hide (at_sorted HGN.out.ck hlm)
                          obtain ⟨y3, ha, hy, hl3⟩ : ∃ y, atP (ndAt l1 (m : Int)).names old = (findP (ndAt l1 (m : Int)).names old : Int) ∧ (ndAt l1 (m : Int)).names[findP (ndAt l1 (m : Int)).names old]? = some y ∧ lkP l1 (m : Int) old = (y.node, true) := by
                            rcases at_lk HS3.out (s := old) with h | ⟨-, h⟩
                            · exact h
                            · rw [HGN.out.lk] at h; injection h with _ h; cases h
                          have hy3k : y3.node = (kk : Int) := by rw [HGN.out.lk] at hl3; injection hl3 with h _; exact h.symm
                          obtain ⟨F3, hF3⟩ : ∃ F, findP (ndAt l1 (m : Int)).names old = F := ⟨_, rfl⟩
                          rw [hF3] at ha hy
                          have HA3 := hide ha
                          have HY3 := hide hy
                          have HYK3 := hide hy3k
                          have HF3 := hide hF3
                          have HSR := hide (rem_sorted HGN.out.ck hlm hlk HGN.out.lk hlp)
                          have HSM := hide (small_ck HGN.out.ck HGN.out.an HGN.out.nm)
                          have HSM2 := hide (rem_small HGN.out.ck HGN.out.an HGN.out.nm hlm HGN.out.lk)
                          clear ha hy hl3 hy3k hF3 hlm hlp hlk
                          go_upto_region 33 with (fail)
                          go_cut [] (fun wx => ∃ X3, Hid (OG w.heap.size w7.heap.size wx (some ⟨g, 0, none⟩) n c' X3 ∧ nds X3 = remP l1 (m : Int) old ∧ Blk wx w8.heap.size 24 #[.slice (some ⟨g, 0, none⟩) n c'] ∧ Blk wx (w.heap.size + 1) 24 #[.slice none 0 0] ∧ Below w.heap.size w wx ∧ w7.heap.size ≤ wx.heap.size))
                          case first =>
                            obtain ⟨wd, hwd⟩ : ∃ W, World.drew w11 = W := ⟨_, rfl⟩
                            have hdr : Below w11.heap.size w11 wd := by rw [← hwd]; exact bl_drewN (n := 1) (Below.refl _ _)
                            have HPd := hide (HP11.out.below hdr HP11.out.lt)
                            have HYd := hide (HY11.out.below hdr HY11.out.lt)
                            have HOd := hide (HO11.out.below hdr)
                            have HBd := hide (HB11.out.trans (hdr.mono HB11.out.size))
                            have HSd : Hid (w7.heap.size ≤ wd.heap.size) := hide (by have h1 := HPd.out.lt; have h2 := HS8.out; omega)
                            have s0 := one_ HPd.out
                            refine wp_region_K (fun V' : World => V'.cell? ⟨w8.heap.size, 0, none⟩ = some (.slice (some ⟨g, 0, none⟩) n c')) [6] rfl (by rw [hwd]; exact s0) (fun hHeld => ?_)
                            rw [hwd] at hHeld ⊢
                            have XM := hide (rat_m (some ⟨g, 0, none⟩) n c' X2 m old wd HOd.out.fs (fun x hx => (okay_of HOd.out HZN.out HSM.out x hx).1) hm (by rw [HZN.out]; exact HS3.out))
                            rw [HZN.out, HA3.out] at XM
                            clear hdr hwd s0
                            refine wpAnyK_take (i := 0) (v := ?_) rfl rfl (by kernel_rfl) (fun _ _ _ h => h) (Or.inl ⟨by rfl, ?_⟩) (by assumption) ?_
                            rotate_left
                            · (intro V hV; (try dsimp only at hV); go_simp; with_reducible rfl)
                            try simp only [Act.put, List.setIfInBounds_toArray, List.set_cons_zero, List.set_cons_succ]
                            refine wpAnyK_take (i := 1) (v := ?_) rfl rfl (by kernel_rfl) (fun _ _ _ h => h) (Or.inl ⟨by rfl, ?_⟩) (by assumption) ?_
                            rotate_left
                            · (intro V hV; (try dsimp only at hV); go_simp; with_reducible rfl)
                            try simp only [Act.put, List.setIfInBounds_toArray, List.set_cons_zero, List.set_cons_succ]
                            refine wpAnyK_take (i := 2) (v := ?_) rfl rfl (by kernel_rfl) (fun _ _ _ h => h) (Or.inl ⟨by rfl, ?_⟩) (by assumption) ?_
                            rotate_left
                            · (intro V hV; (try dsimp only at hV); go_simp; with_reducible rfl)
                            try simp only [Act.put, List.setIfInBounds_toArray, List.set_cons_zero, List.set_cons_succ]
                            refine wpAnyK_take (i := 3) (v := ?_) rfl rfl (by kernel_rfl) (fun _ _ _ h => h) (Or.inl ⟨by rfl, ?_⟩) (by assumption) ?_
                            rotate_left
                            · (intro V hV; (try dsimp only at hV); go_simp; with_reducible rfl)
                            try simp only [Act.put, List.setIfInBounds_toArray, List.set_cons_zero, List.set_cons_succ]
                            refine wpAnyK_take (i := 4) (v := ?_) rfl rfl (by kernel_rfl) (fun _ _ _ h => h) (Or.inl ⟨by rfl, ?_⟩) (by assumption) ?_
                            rotate_left
                            · (intro V hV; (try dsimp only at hV); go_simp; with_reducible rfl)
                            try simp only [Act.put, List.setIfInBounds_toArray, List.set_cons_zero, List.set_cons_succ]
                            refine wpAnyK_step (i := 5) (by kernel_rfl) rfl rfl (fun K hK => ?_)
                            go_simp
                            refine XM.out.mono ?_
                            rintro e wf ⟨rfl, hbf⟩
                            have HPf := hide (HPd.out.below hbf HPd.out.lt)
                            have HYf := hide (HYd.out.below hbf HYd.out.lt)
                            have HOf := hide (HOd.out.below hbf)
                            have HBf := hide (HBd.out.trans (hbf.mono HBd.out.size))
                            have HSf := hide (Nat.le_trans HSd.out hbf.size)
                            have sf := one_ HPf.out
                            refine hK.out _ _ (fun _ _ => by exact sf) ?_
                            clear hK K hHeld hbf XM HPd HYd HOd HBd HSd
                            simp only [List.setIfInBounds_toArray]
                            have XD := hide (rdrop_c w.heap.size w7.heap.size g n c' m kk F3 X2 old y3 wf HOf.out HBi.out HSf.out (okay_of HOf.out HZN.out HSM.out) hm hk (by rw [HZN.out]; exact HF3.out) (by rw [HZN.out]; exact HY3.out) HYK3.out (by rw [HZN.out, HGN.out.lk]))
                            refine wpAnyK_step (i := 6) (by kernel_rfl) rfl rfl (fun K hK => ?_)
                            go_simp
                            refine XD.out.mono ?_
                            rintro e wg ⟨rfl, X3, hO3, hR3, hb3, hn3⟩
                            have HGOAL : Hid (OG w.heap.size w7.heap.size wg (some ⟨g, 0, none⟩) n c' X3 ∧ nds X3 = remP l1 (m : Int) old ∧ Blk wg w8.heap.size 24 #[.slice (some ⟨g, 0, none⟩) n c'] ∧ Blk wg (w.heap.size + 1) 24 #[.slice none 0 0] ∧ Below w.heap.size w wg ∧ w7.heap.size ≤ wg.heap.size) := hide ⟨hO3, by rw [hR3, HZN.out], hn3 _ _ _ HPG.out HPf.out, HYf.out.below hb3 HYl.out, HBf.out.trans (hb3.mono HBi.out), Nat.le_trans HSf.out hb3.size⟩
                            refine hK.out _ _ (fun _ h => absurd (by simp) h) ?_
                            clear hK K hO3 hR3 hb3 hn3 XD
                            refine wpAnyK_done (by kernel_rfl) ?_ _
                            (try simp only [Exit.then])
                            go_wp2_with fail
                            go_meet
                            exact ⟨X3, HGOAL⟩
                          case rest =>
                            obtain ⟨X3, HC3⟩ := hcut
                            have HO3 := hide HC3.out.1
                            have HR3 := hide HC3.out.2.1
                            have HP3 := hide HC3.out.2.2.1
                            have HY4 := hide HC3.out.2.2.2.1
                            have HB3 := hide HC3.out.2.2.2.2.1
                            have XP := hide (rput_c w.heap.size w7.heap.size g n c' p kk X3 s wc HO3.out HBi.out HC3.out.2.2.2.2.2 (okay_of HO3.out HR3.out HSM2.out) hp hk (by rw [HR3.out]; exact HSR.out))
                            have k1 := one_ HP3.out
                            clear HC3 HP11 HY11 HB11 HO11 HX11
                            go_wp2_with fail
                            refine XP.out.mono ?_
                            rintro e w20 ⟨rfl, X5, hO5, hR5, hb5, hn5⟩
                            have HP5 := hide (hn5 _ _ _ HPG.out HP3.out)
                            have HY5 := hide (HY4.out.below hb5 HYl.out)
                            have hB5 := HB3.out.trans (hb5.mono HBi.out)
                            have hO6 := hO5.far (p := ⟨w.heap.size + 1, 0, none⟩) (by show w.heap.size ≤ w.heap.size + 1; omega) (by show w.heap.size + 1 < w7.heap.size; exact HYl.out) (.slice (some ⟨g, 0, none⟩) n c')
                            have HEND := hide (And.intro hO6.fs (hB5.setCell (p := ⟨w.heap.size + 1, 0, none⟩) (by show w.heap.size ≤ w.heap.size + 1; omega) (.slice (some ⟨g, 0, none⟩) n c')))
                            have HLS := hide (hR5.trans (by rw [HR3.out]) : nds X5 = insP (remP l1 (m : Int) old) (p : Int) s (kk : Int))
                            have hTe := HTT.out
                            subst hTe
                            have k5 := one_ HP5.out
                            have k6 := HY5.out.frozen 0
                            have k7 := one_ HY5.out
                            have k8 := HY5.out.lt
                            clear HTT hO5 hR5 hb5 hn5 hB5 hO6 XP k1
                            go_wp2_with fail
                            refine bodyPost_ret (v := .tuple #[.agg #[.slice (some ⟨g, 0, none⟩) n c'], .int .i64 0]) (by simp only [results, Tryz.results17]; go_simp) rfl ?_
                            first | exact ⟨_, _, _, _, rfl, HEND.out.1, HLS.out, HEND.out.2⟩ | exact ⟨_, _, _, rfl, _, HEND.out.1, HLS.out, HEND.out.2⟩
                        · have hzg : (0 : Int) < (zn : Int) := by omega
                          have hnm : zb.r.names ≠ [] := fun e => hz0 (by rw [← HZN2.out, ← HZL.out, e]; rfl)
                          have HRE := hide (re_3 (k := (kk : Int)) (q := (q : Int)) (l := nds X) HEQ.out (by rw [HNZ.out]; exact hnm))
                          clear hnm
                          have hTe : T = (nds X, 26) := by rw [← HT.out]; exact ren_5 HH.out HFF.out HLK.out HWI.out HL2.out HQK.out HRE.out (by omega)
                          subst hTe
                          have k5 := one_ HX10.out
                          have k6 := HY10.out.frozen 0
                          have k7 := one_ HY10.out
                          have k8 := HY10.out.lt
                          have HBE : Hid (Below w.heap.size w (w10.setCell ⟨w.heap.size + 1, 0, none⟩ (.slice L n c))) := hide (HB10.out.setCell (p := ⟨w.heap.size + 1, 0, none⟩) (by show w.heap.size ≤ w.heap.size + 1; omega) _)
                          clear HT
                          go_wp2_with fail
                          refine bodyPost_ret (v := .tuple #[.agg #[.slice L n c], .int .i64 26]) (by simp only [results, Tryz.results17]; go_simp) rfl ?_
                          first | exact ⟨L, n, c, X, rfl, HF.out _ HBE.out, rfl, HBE.out⟩ | exact ⟨L, n, c, rfl, X, HF.out _ HBE.out, rfl, HBE.out⟩
                    · have hq3 : (kq == 2) = false := beq_eq_false_iff_ne.2 hq2
                      have HQ2 := hide hq3
                      have HQN := hide hq2
                      clear hq2
                      cases db with
                      | true =>
                        have HRE := hide (re_2 (k := (kk : Int)) (q := (q : Int)) (l := nds X) (by rw [HKQ.out]; exact HQN.out) (by rw [HKD.out]; exact beq_iff_eq.1 HDB.out.symm))
                        have hTe : T = (nds X, 22) := by rw [← HT.out]; exact ren_5 HH.out HFF.out HLK.out HWI.out HL2.out HQK.out HRE.out (by omega)
                        subst hTe
                        have k5 := one_ HX10.out
                        have k6 := HY10.out.frozen 0
                        have k7 := one_ HY10.out
                        have k8 := HY10.out.lt
                        have HBE : Hid (Below w.heap.size w (w10.setCell ⟨w.heap.size + 1, 0, none⟩ (.slice L n c))) := hide (HB10.out.setCell (p := ⟨w.heap.size + 1, 0, none⟩) (by show w.heap.size ≤ w.heap.size + 1; omega) _)
                        clear HT
                        go_wp2_with fail
                        refine bodyPost_ret (v := .tuple #[.agg #[.slice L n c], .int .i64 22]) (by simp only [results, Tryz.results17]; go_simp) rfl ?_
                        first | exact ⟨L, n, c, X, rfl, HF.out _ HBE.out, rfl, HBE.out⟩ | exact ⟨L, n, c, rfl, X, HF.out _ HBE.out, rfl, HBE.out⟩
                      | false =>
                        have HEQ : Hid (((ndAt (nds X) (q : Int)).kind == 2) = ((ndAt (nds X) (kk : Int)).kind == 2)) := hide (by rw [HKQ.out, HKD.out, ← HDB.out]; exact HQ2.out)
                        by_cases hz0 : zn = 0
                        · subst hz0
                          have hnm : zb.r.names = [] := List.eq_nil_of_length_eq_zero (by rw [HZL.out, HZN2.out])
                          have HRE := hide (re_4 (k := (kk : Int)) (q := (q : Int)) (l := nds X) HEQ.out (by rw [HNZ.out]; exact hnm))
                          clear hnm
                          have XD := hide (rdrop_c w.heap.size w7.heap.size g n c' p q F2 X' s yb w10 HO10.out HBi.out (by have h1 := HP10.out.lt; have h2 := HS8.out; omega) (smallG HO10.out HFW.out HR.out HCK.out) hp hq (by rw [HR.out]; exact HFD2.out) (by rw [HR.out, ← HFD2.out]; exact HYB.out) HYKB.out (by rw [HR.out, HL2.out]))
                          have k1 := one_ HP10.out
                          go_wp2_with fail
                          refine XD.out.mono ?_
                          rintro e w11 ⟨rfl, X2, hO2, hR2, hb2, hn2⟩
                          have HX11 := hide (HX10.out.below hb2 HXl.out)
                          have HY11 := hide (HY10.out.below hb2 HYl.out)
                          have HP11 := hide (hn2 _ _ _ HPG.out HP10.out)
                          have HO11 := hide hO2
                          have HB11 := hide (HB10.out.trans (hb2.mono HBi.out))
                          obtain ⟨l1, hl1⟩ : ∃ l1, remP (nds X) (p : Int) s = l1 := ⟨_, rfl⟩
                          have HZN : Hid (nds X2 = l1) := hide (by rw [hR2, HR.out]; exact hl1)
                          have HGN : Hid (Gone l1 n m p kk old) := hide (by
                            obtain ⟨c1, c2, c3, c4, c5⟩ := ren_mid HCK.out HML.out.1 HML.out.2 HLK.out HL2.out HQK.out HRE.out
                            rw [hl1] at c1 c2 c3 c4 c5
                            exact ⟨c1, c2, Nat.le_trans c4 (names_few HFW.out), c5 200 (few_names HFW.out), c3.trans HLN.out⟩)
                          have HTT : Hid (T = (insP (remP l1 (m : Int) old) (p : Int) s (kk : Int), 0)) := hide (by rw [← hl1, ← HT.out]; exact ren_6 HH.out HFF.out HLK.out HWI.out HL2.out HQK.out HRE.out)
                          clear hl1 HT hO2 hR2 hb2 hn2 XD k1 HX10 HY10 HP10 HO10 HB10 d4b c0b c4b n1 i1b i2b i3b hqb hq3 hge2
                          clear XA k0
                          have hlm : m < l1.length := by have := HGN.out.ln; omega
                          have hlp : p < l1.length := by have := HGN.out.ln; omega
                          have hlk : kk < l1.length := by have := HGN.out.ln; omega
                          have HS3 := hide (at_sorted HGN.out.ck hlm)
                          obtain ⟨y3, ha, hy, hl3⟩ : ∃ y, atP (ndAt l1 (m : Int)).names old = (findP (ndAt l1 (m : Int)).names old : Int) ∧ (ndAt l1 (m : Int)).names[findP (ndAt l1 (m : Int)).names old]? = some y ∧ lkP l1 (m : Int) old = (y.node, true) := by
                            rcases at_lk HS3.out (s := old) with h | ⟨-, h⟩
                            · exact h
                            · rw [HGN.out.lk] at h; injection h with _ h; cases h
                          have hy3k : y3.node = (kk : Int) := by rw [HGN.out.lk] at hl3; injection hl3 with h _; exact h.symm
                          obtain ⟨F3, hF3⟩ : ∃ F, findP (ndAt l1 (m : Int)).names old = F := ⟨_, rfl⟩
                          rw [hF3] at ha hy
                          have HA3 := hide ha
                          have HY3 := hide hy
                          have HYK3 := hide hy3k
                          have HF3 := hide hF3
                          have HSR := hide (rem_sorted HGN.out.ck hlm hlk HGN.out.lk hlp)
                          have HSM := hide (small_ck HGN.out.ck HGN.out.an HGN.out.nm)
                          have HSM2 := hide (rem_small HGN.out.ck HGN.out.an HGN.out.nm hlm HGN.out.lk)
                          clear ha hy hl3 hy3k hF3 hlm hlp hlk
                          go_upto_region 33 with (fail)
                          go_cut [] (fun wx => ∃ X3, Hid (OG w.heap.size w7.heap.size wx (some ⟨g, 0, none⟩) n c' X3 ∧ nds X3 = remP l1 (m : Int) old ∧ Blk wx w8.heap.size 24 #[.slice (some ⟨g, 0, none⟩) n c'] ∧ Blk wx (w.heap.size + 1) 24 #[.slice none 0 0] ∧ Below w.heap.size w wx ∧ w7.heap.size ≤ wx.heap.size))
                          case first =>
                            obtain ⟨wd, hwd⟩ : ∃ W, World.drew w11 = W := ⟨_, rfl⟩
                            have hdr : Below w11.heap.size w11 wd := by rw [← hwd]; exact bl_drewN (n := 1) (Below.refl _ _)
                            have HPd := hide (HP11.out.below hdr HP11.out.lt)
                            have HYd := hide (HY11.out.below hdr HY11.out.lt)
                            have HOd := hide (HO11.out.below hdr)
                            have HBd := hide (HB11.out.trans (hdr.mono HB11.out.size))
                            have HSd : Hid (w7.heap.size ≤ wd.heap.size) := hide (by have h1 := HPd.out.lt; have h2 := HS8.out; omega)
                            have s0 := one_ HPd.out
                            refine wp_region_K (fun V' : World => V'.cell? ⟨w8.heap.size, 0, none⟩ = some (.slice (some ⟨g, 0, none⟩) n c')) [6] rfl (by rw [hwd]; exact s0) (fun hHeld => ?_)
                            rw [hwd] at hHeld ⊢
                            have XM := hide (rat_m (some ⟨g, 0, none⟩) n c' X2 m old wd HOd.out.fs (fun x hx => (okay_of HOd.out HZN.out HSM.out x hx).1) hm (by rw [HZN.out]; exact HS3.out))
                            rw [HZN.out, HA3.out] at XM
                            clear hdr hwd s0
                            refine wpAnyK_take (i := 0) (v := ?_) rfl rfl (by kernel_rfl) (fun _ _ _ h => h) (Or.inl ⟨by rfl, ?_⟩) (by assumption) ?_
                            rotate_left
                            · (intro V hV; (try dsimp only at hV); go_simp; with_reducible rfl)
                            try simp only [Act.put, List.setIfInBounds_toArray, List.set_cons_zero, List.set_cons_succ]
                            refine wpAnyK_take (i := 1) (v := ?_) rfl rfl (by kernel_rfl) (fun _ _ _ h => h) (Or.inl ⟨by rfl, ?_⟩) (by assumption) ?_
                            rotate_left
                            · (intro V hV; (try dsimp only at hV); go_simp; with_reducible rfl)
                            try simp only [Act.put, List.setIfInBounds_toArray, List.set_cons_zero, List.set_cons_succ]
                            refine wpAnyK_take (i := 2) (v := ?_) rfl rfl (by kernel_rfl) (fun _ _ _ h => h) (Or.inl ⟨by rfl, ?_⟩) (by assumption) ?_
                            rotate_left
                            · (intro V hV; (try dsimp only at hV); go_simp; with_reducible rfl)
                            try simp only [Act.put, List.setIfInBounds_toArray, List.set_cons_zero, List.set_cons_succ]
                            refine wpAnyK_take (i := 3) (v := ?_) rfl rfl (by kernel_rfl) (fun _ _ _ h => h) (Or.inl ⟨by rfl, ?_⟩) (by assumption) ?_
                            rotate_left
                            · (intro V hV; (try dsimp only at hV); go_simp; with_reducible rfl)
                            try simp only [Act.put, List.setIfInBounds_toArray, List.set_cons_zero, List.set_cons_succ]
                            refine wpAnyK_take (i := 4) (v := ?_) rfl rfl (by kernel_rfl) (fun _ _ _ h => h) (Or.inl ⟨by rfl, ?_⟩) (by assumption) ?_
                            rotate_left
                            · (intro V hV; (try dsimp only at hV); go_simp; with_reducible rfl)
                            try simp only [Act.put, List.setIfInBounds_toArray, List.set_cons_zero, List.set_cons_succ]
                            refine wpAnyK_step (i := 5) (by kernel_rfl) rfl rfl (fun K hK => ?_)
                            go_simp
                            refine XM.out.mono ?_
                            rintro e wf ⟨rfl, hbf⟩
                            have HPf := hide (HPd.out.below hbf HPd.out.lt)
                            have HYf := hide (HYd.out.below hbf HYd.out.lt)
                            have HOf := hide (HOd.out.below hbf)
                            have HBf := hide (HBd.out.trans (hbf.mono HBd.out.size))
                            have HSf := hide (Nat.le_trans HSd.out hbf.size)
                            have sf := one_ HPf.out
                            refine hK.out _ _ (fun _ _ => by exact sf) ?_
                            clear hK K hHeld hbf XM HPd HYd HOd HBd HSd
                            simp only [List.setIfInBounds_toArray]
                            have XD := hide (rdrop_c w.heap.size w7.heap.size g n c' m kk F3 X2 old y3 wf HOf.out HBi.out HSf.out (okay_of HOf.out HZN.out HSM.out) hm hk (by rw [HZN.out]; exact HF3.out) (by rw [HZN.out]; exact HY3.out) HYK3.out (by rw [HZN.out, HGN.out.lk]))
                            refine wpAnyK_step (i := 6) (by kernel_rfl) rfl rfl (fun K hK => ?_)
                            go_simp
                            refine XD.out.mono ?_
                            rintro e wg ⟨rfl, X3, hO3, hR3, hb3, hn3⟩
                            have HGOAL : Hid (OG w.heap.size w7.heap.size wg (some ⟨g, 0, none⟩) n c' X3 ∧ nds X3 = remP l1 (m : Int) old ∧ Blk wg w8.heap.size 24 #[.slice (some ⟨g, 0, none⟩) n c'] ∧ Blk wg (w.heap.size + 1) 24 #[.slice none 0 0] ∧ Below w.heap.size w wg ∧ w7.heap.size ≤ wg.heap.size) := hide ⟨hO3, by rw [hR3, HZN.out], hn3 _ _ _ HPG.out HPf.out, HYf.out.below hb3 HYl.out, HBf.out.trans (hb3.mono HBi.out), Nat.le_trans HSf.out hb3.size⟩
                            refine hK.out _ _ (fun _ h => absurd (by simp) h) ?_
                            clear hK K hO3 hR3 hb3 hn3 XD
                            refine wpAnyK_done (by kernel_rfl) ?_ _
                            (try simp only [Exit.then])
                            go_wp2_with fail
                            go_meet
                            exact ⟨X3, HGOAL⟩
                          case rest =>
                            obtain ⟨X3, HC3⟩ := hcut
                            have HO3 := hide HC3.out.1
                            have HR3 := hide HC3.out.2.1
                            have HP3 := hide HC3.out.2.2.1
                            have HY4 := hide HC3.out.2.2.2.1
                            have HB3 := hide HC3.out.2.2.2.2.1
                            have XP := hide (rput_c w.heap.size w7.heap.size g n c' p kk X3 s wc HO3.out HBi.out HC3.out.2.2.2.2.2 (okay_of HO3.out HR3.out HSM2.out) hp hk (by rw [HR3.out]; exact HSR.out))
                            have k1 := one_ HP3.out
                            clear HC3 HP11 HY11 HB11 HO11 HX11
                            go_wp2_with fail
                            refine XP.out.mono ?_
                            rintro e w20 ⟨rfl, X5, hO5, hR5, hb5, hn5⟩
                            have HP5 := hide (hn5 _ _ _ HPG.out HP3.out)
                            have HY5 := hide (HY4.out.below hb5 HYl.out)
                            have hB5 := HB3.out.trans (hb5.mono HBi.out)
                            have hO6 := hO5.far (p := ⟨w.heap.size + 1, 0, none⟩) (by show w.heap.size ≤ w.heap.size + 1; omega) (by show w.heap.size + 1 < w7.heap.size; exact HYl.out) (.slice (some ⟨g, 0, none⟩) n c')
                            have HEND := hide (And.intro hO6.fs (hB5.setCell (p := ⟨w.heap.size + 1, 0, none⟩) (by show w.heap.size ≤ w.heap.size + 1; omega) (.slice (some ⟨g, 0, none⟩) n c')))
                            have HLS := hide (hR5.trans (by rw [HR3.out]) : nds X5 = insP (remP l1 (m : Int) old) (p : Int) s (kk : Int))
                            have hTe := HTT.out
                            subst hTe
                            have k5 := one_ HP5.out
                            have k6 := HY5.out.frozen 0
                            have k7 := one_ HY5.out
                            have k8 := HY5.out.lt
                            clear HTT hO5 hR5 hb5 hn5 hB5 hO6 XP k1
                            go_wp2_with fail
                            refine bodyPost_ret (v := .tuple #[.agg #[.slice (some ⟨g, 0, none⟩) n c'], .int .i64 0]) (by simp only [results, Tryz.results17]; go_simp) rfl ?_
                            first | exact ⟨_, _, _, _, rfl, HEND.out.1, HLS.out, HEND.out.2⟩ | exact ⟨_, _, _, rfl, _, HEND.out.1, HLS.out, HEND.out.2⟩
                        · have hzg : (0 : Int) < (zn : Int) := by omega
                          have hnm : zb.r.names ≠ [] := fun e => hz0 (by rw [← HZN2.out, ← HZL.out, e]; rfl)
                          have HRE := hide (re_3 (k := (kk : Int)) (q := (q : Int)) (l := nds X) HEQ.out (by rw [HNZ.out]; exact hnm))
                          clear hnm
                          have hTe : T = (nds X, 26) := by rw [← HT.out]; exact ren_5 HH.out HFF.out HLK.out HWI.out HL2.out HQK.out HRE.out (by omega)
                          subst hTe
                          have k5 := one_ HX10.out
                          have k6 := HY10.out.frozen 0
                          have k7 := one_ HY10.out
                          have k8 := HY10.out.lt
                          have HBE : Hid (Below w.heap.size w (w10.setCell ⟨w.heap.size + 1, 0, none⟩ (.slice L n c))) := hide (HB10.out.setCell (p := ⟨w.heap.size + 1, 0, none⟩) (by show w.heap.size ≤ w.heap.size + 1; omega) _)
                          clear HT
                          go_wp2_with fail
                          refine bodyPost_ret (v := .tuple #[.agg #[.slice L n c], .int .i64 26]) (by simp only [results, Tryz.results17]; go_simp) rfl ?_
                          first | exact ⟨L, n, c, X, rfl, HF.out _ HBE.out, rfl, HBE.out⟩ | exact ⟨L, n, c, rfl, X, HF.out _ HBE.out, rfl, HBE.out⟩
                · rw [ha] at XA
                  have HL2 := hide hlk
                  clear ha hlk
                  go_wp2_with (rw [hW9])
                  refine XA.out.mono ?_
                  rintro e w10 ⟨rfl, hb10⟩
                  have HX10 := hide (HX9.out.below hb10 HX9.out.lt)
                  have HY10 := hide (HY9.out.below hb10 HY9.out.lt)
                  have HP10 := hide (HP9.out.below hb10 HP9.out.lt)
                  have HO10 := hide (HO9.out.below hb10)
                  have HB10 := hide (HB9.out.trans (hb10.mono HB9.out.size))
                  clear hb10 HX9 HY9 HP9 HO9 HB9
                  obtain ⟨l1, hl1⟩ : ∃ l1, nds X = l1 := ⟨_, rfl⟩
                  have HZN : Hid (nds X' = l1) := hide (HR.out.trans hl1)
                  have HGN : Hid (Gone l1 n m p kk old) := hide (by rw [← hl1]; exact ⟨HCK.out, HLK.out, names_few HFW.out, few_names HFW.out, HLN.out⟩)
                  have HTT : Hid (T = (insP (remP l1 (m : Int) old) (p : Int) s (kk : Int), 0)) := hide (by rw [← hl1, ← HT.out]; exact ren_7 HH.out HFF.out HLK.out HWI.out HL2.out)
                  clear hl1 HT
                  clear XA k0
                  have hlm : m < l1.length := by have := HGN.out.ln; omega
                  have hlp : p < l1.length := by have := HGN.out.ln; omega
                  have hlk : kk < l1.length := by have := HGN.out.ln; omega
                  have HS3 := hide (at_sorted HGN.out.ck hlm)
                  obtain ⟨y3, ha, hy, hl3⟩ : ∃ y, atP (ndAt l1 (m : Int)).names old = (findP (ndAt l1 (m : Int)).names old : Int) ∧ (ndAt l1 (m : Int)).names[findP (ndAt l1 (m : Int)).names old]? = some y ∧ lkP l1 (m : Int) old = (y.node, true) := by
                    rcases at_lk HS3.out (s := old) with h | ⟨-, h⟩
                    · exact h
                    · rw [HGN.out.lk] at h; injection h with _ h; cases h
                  have hy3k : y3.node = (kk : Int) := by rw [HGN.out.lk] at hl3; injection hl3 with h _; exact h.symm
                  obtain ⟨F3, hF3⟩ : ∃ F, findP (ndAt l1 (m : Int)).names old = F := ⟨_, rfl⟩
                  rw [hF3] at ha hy
                  have HA3 := hide ha
                  have HY3 := hide hy
                  have HYK3 := hide hy3k
                  have HF3 := hide hF3
                  have HSR := hide (rem_sorted HGN.out.ck hlm hlk HGN.out.lk hlp)
                  have HSM := hide (small_ck HGN.out.ck HGN.out.an HGN.out.nm)
                  have HSM2 := hide (rem_small HGN.out.ck HGN.out.an HGN.out.nm hlm HGN.out.lk)
                  clear ha hy hl3 hy3k hF3 hlm hlp hlk
                  go_upto_region 33 with (fail)
                  go_cut [] (fun wx => ∃ X3, Hid (OG w.heap.size w7.heap.size wx (some ⟨g, 0, none⟩) n c' X3 ∧ nds X3 = remP l1 (m : Int) old ∧ Blk wx w8.heap.size 24 #[.slice (some ⟨g, 0, none⟩) n c'] ∧ Blk wx (w.heap.size + 1) 24 #[.slice none 0 0] ∧ Below w.heap.size w wx ∧ w7.heap.size ≤ wx.heap.size))
                  case first =>
                    obtain ⟨wd, hwd⟩ : ∃ W, World.drew w10 = W := ⟨_, rfl⟩
                    have hdr : Below w10.heap.size w10 wd := by rw [← hwd]; exact bl_drewN (n := 1) (Below.refl _ _)
                    have HPd := hide (HP10.out.below hdr HP10.out.lt)
                    have HYd := hide (HY10.out.below hdr HY10.out.lt)
                    have HOd := hide (HO10.out.below hdr)
                    have HBd := hide (HB10.out.trans (hdr.mono HB10.out.size))
                    have HSd : Hid (w7.heap.size ≤ wd.heap.size) := hide (by have h1 := HPd.out.lt; have h2 := HS8.out; omega)
                    have s0 := one_ HPd.out
                    refine wp_region_K (fun V' : World => V'.cell? ⟨w8.heap.size, 0, none⟩ = some (.slice (some ⟨g, 0, none⟩) n c')) [6] rfl (by rw [hwd]; exact s0) (fun hHeld => ?_)
                    rw [hwd] at hHeld ⊢
                    have XM := hide (rat_m (some ⟨g, 0, none⟩) n c' X' m old wd HOd.out.fs (fun x hx => (okay_of HOd.out HZN.out HSM.out x hx).1) hm (by rw [HZN.out]; exact HS3.out))
                    rw [HZN.out, HA3.out] at XM
                    clear hdr hwd s0
                    refine wpAnyK_take (i := 0) (v := ?_) rfl rfl (by kernel_rfl) (fun _ _ _ h => h) (Or.inl ⟨by rfl, ?_⟩) (by assumption) ?_
                    rotate_left
                    · (intro V hV; (try dsimp only at hV); go_simp; with_reducible rfl)
                    try simp only [Act.put, List.setIfInBounds_toArray, List.set_cons_zero, List.set_cons_succ]
                    refine wpAnyK_take (i := 1) (v := ?_) rfl rfl (by kernel_rfl) (fun _ _ _ h => h) (Or.inl ⟨by rfl, ?_⟩) (by assumption) ?_
                    rotate_left
                    · (intro V hV; (try dsimp only at hV); go_simp; with_reducible rfl)
                    try simp only [Act.put, List.setIfInBounds_toArray, List.set_cons_zero, List.set_cons_succ]
                    refine wpAnyK_take (i := 2) (v := ?_) rfl rfl (by kernel_rfl) (fun _ _ _ h => h) (Or.inl ⟨by rfl, ?_⟩) (by assumption) ?_
                    rotate_left
                    · (intro V hV; (try dsimp only at hV); go_simp; with_reducible rfl)
                    try simp only [Act.put, List.setIfInBounds_toArray, List.set_cons_zero, List.set_cons_succ]
                    refine wpAnyK_take (i := 3) (v := ?_) rfl rfl (by kernel_rfl) (fun _ _ _ h => h) (Or.inl ⟨by rfl, ?_⟩) (by assumption) ?_
                    rotate_left
                    · (intro V hV; (try dsimp only at hV); go_simp; with_reducible rfl)
                    try simp only [Act.put, List.setIfInBounds_toArray, List.set_cons_zero, List.set_cons_succ]
                    refine wpAnyK_take (i := 4) (v := ?_) rfl rfl (by kernel_rfl) (fun _ _ _ h => h) (Or.inl ⟨by rfl, ?_⟩) (by assumption) ?_
                    rotate_left
                    · (intro V hV; (try dsimp only at hV); go_simp; with_reducible rfl)
                    try simp only [Act.put, List.setIfInBounds_toArray, List.set_cons_zero, List.set_cons_succ]
                    refine wpAnyK_step (i := 5) (by kernel_rfl) rfl rfl (fun K hK => ?_)
                    go_simp
                    refine XM.out.mono ?_
                    rintro e wf ⟨rfl, hbf⟩
                    have HPf := hide (HPd.out.below hbf HPd.out.lt)
                    have HYf := hide (HYd.out.below hbf HYd.out.lt)
                    have HOf := hide (HOd.out.below hbf)
                    have HBf := hide (HBd.out.trans (hbf.mono HBd.out.size))
                    have HSf := hide (Nat.le_trans HSd.out hbf.size)
                    have sf := one_ HPf.out
                    refine hK.out _ _ (fun _ _ => by exact sf) ?_
                    clear hK K hHeld hbf XM HPd HYd HOd HBd HSd
                    simp only [List.setIfInBounds_toArray]
                    have XD := hide (rdrop_c w.heap.size w7.heap.size g n c' m kk F3 X' old y3 wf HOf.out HBi.out HSf.out (okay_of HOf.out HZN.out HSM.out) hm hk (by rw [HZN.out]; exact HF3.out) (by rw [HZN.out]; exact HY3.out) HYK3.out (by rw [HZN.out, HGN.out.lk]))
                    refine wpAnyK_step (i := 6) (by kernel_rfl) rfl rfl (fun K hK => ?_)
                    go_simp
                    refine XD.out.mono ?_
                    rintro e wg ⟨rfl, X3, hO3, hR3, hb3, hn3⟩
                    have HGOAL : Hid (OG w.heap.size w7.heap.size wg (some ⟨g, 0, none⟩) n c' X3 ∧ nds X3 = remP l1 (m : Int) old ∧ Blk wg w8.heap.size 24 #[.slice (some ⟨g, 0, none⟩) n c'] ∧ Blk wg (w.heap.size + 1) 24 #[.slice none 0 0] ∧ Below w.heap.size w wg ∧ w7.heap.size ≤ wg.heap.size) := hide ⟨hO3, by rw [hR3, HZN.out], hn3 _ _ _ HPG.out HPf.out, HYf.out.below hb3 HYl.out, HBf.out.trans (hb3.mono HBi.out), Nat.le_trans HSf.out hb3.size⟩
                    refine hK.out _ _ (fun _ h => absurd (by simp) h) ?_
                    clear hK K hO3 hR3 hb3 hn3 XD
                    refine wpAnyK_done (by kernel_rfl) ?_ _
                    (try simp only [Exit.then])
                    go_wp2_with fail
                    go_meet
                    exact ⟨X3, HGOAL⟩
                  case rest =>
                    obtain ⟨X3, HC3⟩ := hcut
                    have HO3 := hide HC3.out.1
                    have HR3 := hide HC3.out.2.1
                    have HP3 := hide HC3.out.2.2.1
                    have HY4 := hide HC3.out.2.2.2.1
                    have HB3 := hide HC3.out.2.2.2.2.1
                    have XP := hide (rput_c w.heap.size w7.heap.size g n c' p kk X3 s wc HO3.out HBi.out HC3.out.2.2.2.2.2 (okay_of HO3.out HR3.out HSM2.out) hp hk (by rw [HR3.out]; exact HSR.out))
                    have k1 := one_ HP3.out
                    clear HC3 HP10 HY10 HB10 HO10 HX10
                    go_wp2_with fail
                    refine XP.out.mono ?_
                    rintro e w20 ⟨rfl, X5, hO5, hR5, hb5, hn5⟩
                    have HP5 := hide (hn5 _ _ _ HPG.out HP3.out)
                    have HY5 := hide (HY4.out.below hb5 HYl.out)
                    have hB5 := HB3.out.trans (hb5.mono HBi.out)
                    have hO6 := hO5.far (p := ⟨w.heap.size + 1, 0, none⟩) (by show w.heap.size ≤ w.heap.size + 1; omega) (by show w.heap.size + 1 < w7.heap.size; exact HYl.out) (.slice (some ⟨g, 0, none⟩) n c')
                    have HEND := hide (And.intro hO6.fs (hB5.setCell (p := ⟨w.heap.size + 1, 0, none⟩) (by show w.heap.size ≤ w.heap.size + 1; omega) (.slice (some ⟨g, 0, none⟩) n c')))
                    have HLS := hide (hR5.trans (by rw [HR3.out]) : nds X5 = insP (remP l1 (m : Int) old) (p : Int) s (kk : Int))
                    have hTe := HTT.out
                    subst hTe
                    have k5 := one_ HP5.out
                    have k6 := HY5.out.frozen 0
                    have k7 := one_ HY5.out
                    have k8 := HY5.out.lt
                    clear HTT hO5 hR5 hb5 hn5 hB5 hO6 XP k1
                    go_wp2_with fail
                    refine bodyPost_ret (v := .tuple #[.agg #[.slice (some ⟨g, 0, none⟩) n c'], .int .i64 0]) (by simp only [results, Tryz.results17]; go_simp) rfl ?_
                    first | exact ⟨_, _, _, _, rfl, HEND.out.1, HLS.out, HEND.out.2⟩ | exact ⟨_, _, _, rfl, _, HEND.out.1, HLS.out, HEND.out.2⟩
          · rw [ha] at XA
            have HLK := hide hlk
            clear ha hlk
            have k0 := one_ HX5.out
            go_wp2_with fail
            refine XA.out.mono ?_
            rintro e w6 ⟨rfl, hb6⟩
            have HX6 := hide (HX5.out.below hb6 HX5.out.lt)
            have HY6 := hide (HY5.out.below hb6 HY5.out.lt)
            have HB6 := hide (HB5.out.trans (hb6.mono HB5.out.size))
            clear hb6 k0 HX5 HB5 XA HY5
            have hTe : T = (nds X, 20) := by rw [← HT.out]; exact ren_2 HH.out HFF.out HLK.out
            subst hTe
            have k5 := one_ HX6.out
            have k6 := HY6.out.frozen 0
            have k7 := one_ HY6.out
            have k8 := HY6.out.lt
            have HBE : Hid (Below w.heap.size w (w6.setCell ⟨w.heap.size + 1, 0, none⟩ (.slice L n c))) := hide (HB6.out.setCell (p := ⟨w.heap.size + 1, 0, none⟩) (by show w.heap.size ≤ w.heap.size + 1; omega) _)
            clear HT
            go_wp2_with fail
            refine bodyPost_ret (v := .tuple #[.agg #[.slice L n c], .int .i64 20]) (by simp only [results, Tryz.results17]; go_simp) rfl ?_
            first | exact ⟨L, n, c, X, rfl, HF.out _ HBE.out, rfl, HBE.out⟩ | exact ⟨L, n, c, rfl, X, HF.out _ HBE.out, rfl, HBE.out⟩
        · have hEb : (E != 0) = true := bne_iff_ne.2 h0
          have H0 := hide h0
          clear h0
          have hTe : T = (nds X, E) := by rw [← HT.out]; exact ren_1 HH.out (by rw [HE.out, HE1.out, HE2.out]; exact first3_3) H0.out
          subst hTe
          have k5 := one_ HX5.out
          have k6 := HY5.out.frozen 0
          have k7 := one_ HY5.out
          have k8 := HY5.out.lt
          have HBE : Hid (Below w.heap.size w (w5.setCell ⟨w.heap.size + 1, 0, none⟩ (.slice L n c))) := hide (HB5.out.setCell (p := ⟨w.heap.size + 1, 0, none⟩) (by show w.heap.size ≤ w.heap.size + 1; omega) _)
          clear HT
          go_wp2_with fail
          refine bodyPost_ret (v := .tuple #[.agg #[.slice L n c], .int .i64 E]) (by simp only [results, Tryz.results17]; go_simp) rfl ?_
          first | exact ⟨L, n, c, X, rfl, HF.out _ HBE.out, rfl, HBE.out⟩ | exact ⟨L, n, c, rfl, X, HF.out _ HBE.out, rfl, HBE.out⟩
      · have hEb : (E != 0) = true := bne_iff_ne.2 h0
        have H0 := hide h0
        clear h0
        have hTe : T = (nds X, E) := by rw [← HT.out]; exact ren_1 HH.out (by rw [HE.out, HE1.out]; exact first3_2 H0.out) H0.out
        subst hTe
        have k5 := one_ HX4.out
        have k6 := HY4.out.frozen 0
        have k7 := one_ HY4.out
        have k8 := HY4.out.lt
        have HBE : Hid (Below w.heap.size w (w4.setCell ⟨w.heap.size + 1, 0, none⟩ (.slice L n c))) := hide (HB4.out.setCell (p := ⟨w.heap.size + 1, 0, none⟩) (by show w.heap.size ≤ w.heap.size + 1; omega) _)
        clear HT
        go_wp2_with fail
        refine bodyPost_ret (v := .tuple #[.agg #[.slice L n c], .int .i64 E]) (by simp only [results, Tryz.results17]; go_simp) rfl ?_
        first | exact ⟨L, n, c, X, rfl, HF.out _ HBE.out, rfl, HBE.out⟩ | exact ⟨L, n, c, rfl, X, HF.out _ HBE.out, rfl, HBE.out⟩
    · have hEb : (E != 0) = true := bne_iff_ne.2 h0
      have H0 := hide h0
      clear h0
      have hTe : T = (nds X, E) := by rw [← HT.out]; exact ren_1 HH.out (by rw [HE.out]; exact first3_1 H0.out) H0.out
      subst hTe
      have k5 := one_ HX2.out
      have k6 := HY2.out.frozen 0
      have k7 := one_ HY2.out
      have k8 := HY2.out.lt
      have HBE : Hid (Below w.heap.size w (w2.setCell ⟨w.heap.size + 1, 0, none⟩ (.slice L n c))) := hide (HB2.out.setCell (p := ⟨w.heap.size + 1, 0, none⟩) (by show w.heap.size ≤ w.heap.size + 1; omega) _)
      clear HT
      go_wp2_with fail
      refine bodyPost_ret (v := .tuple #[.agg #[.slice L n c], .int .i64 E]) (by simp only [results, Tryz.results17]; go_simp) rfl ?_
      first | exact ⟨L, n, c, X, rfl, HF.out _ HBE.out, rfl, HBE.out⟩ | exact ⟨L, n, c, rfl, X, HF.out _ HBE.out, rfl, HBE.out⟩
end Go.Proofs.YtlcoapignfmgcaaGreatDoor
