/- The document's walk. -/
import Derived.Test.YtlcoapignfmgcaaGreatDoorNdQe
namespace Go.Proofs.YtlcoapignfmgcaaGreatDoor
open Go.RowKit
set_option linter.unusedVariables false
theorem reads_blk {V : World} {g size n : Nat} {t : TypeId} {cs : Array Value} {xs : List Value} (h : Blk V g t cs) (hx : cs.toList = xs) (hl : xs.length = n * size) : Reads V V.heap.size size (some ⟨g, 0, none⟩) n xs :=
  ⟨hl, fun _ => ⟨_, rfl, h.lt, fun j u hj => by
    rw [at_add, Nat.zero_add, h.cell j]
    subst hx
    simpa using hj⟩⟩
/-- A slash and a name for each. -/
def preT (us : List Bs) : Bs := us.flatMap fun z => 47 :: z
theorem pre_snoc (us : List Bs) (z : Bs) : preT (us ++ [z]) = preT us ++ 47 :: z := by simp [preT]
theorem pre_join : ∀ (ks : List Bs), ks ≠ [] → 47 :: Lib.join ks [47] = preT ks
  | [], h => absurd rfl h
  | [x], _ => by simp [preT, Lib.join]
  | x :: y :: r, _ => by
    rw [join_two, preT, List.flatMap_cons]
    have := pre_join (y :: r) (by simp)
    unfold preT at this
    rw [← this]
    simp
theorem pathP_pre (x : ST) : pathP x = preT (pth x) := by
  unfold pathP
  rw [← pre_join _ (pth_ne x)]
  rfl
def WSs (B gw : Nat) (F : Value) (s : List ST) (V : World) : Prop := WS B gw F s.length s.length s.length s.length (s.map ST.dir) (s.map ST.name) (s.map pathP) (s.map ST.node) V
theorem WSs.snoc {B gw : Nat} {F : Value} {s : List ST} {m : Nat} {V : World} {x : ST} {a d : Int} {b c : Bs} (hm : s.length = m) (h : WS B gw F (m + 1) (m + 1) (m + 1) (m + 1) (s.map ST.dir ++ [a]) (s.map ST.name ++ [b]) (s.map pathP ++ [c]) (s.map ST.node ++ [d]) V) (e1 : x.dir = a) (e2 : x.name = b) (e3 : pathP x = c) (e4 : x.node = d) : WSs B gw F (s ++ [x]) V := by
  subst e1; subst e2; subst e3; subst e4; subst hm
  unfold WSs
  rw [List.length_append, List.length_singleton, List.map_append, List.map_append, List.map_append, List.map_append]
  exact h
set_option maxRecDepth 100000 in
set_option maxHeartbeats 16000000 in
theorem rwalk_any {B0 B gw n c : Nat} {L : Option Addr} {l : List DV} (hr : RefsOk (nds l)) (hfew : ∀ x ∈ l, FewN x) (h0 : B0 ≤ B) (hg0 : B0 ≤ gw) :
    ∀ (k : Nat) (q : Nat) (us : List Bs) (P : Bs) (s : List ST) (V : World), Deep (nds l) k (q : Int) → q < n → P = preT us → P.length + k * 301 ≤ 1000000 → s.length + (wk (nds l) k us (q : Int)).length ≤ 100000 → FsR V B0 L n l → WSs B gw (.slice L n c) s V →
      Calls Tryz.prog 95 #[.pointer (some ⟨gw, 0, none⟩), .int .i64 (q : Int), .string ⟨P.toArray⟩] V fun e V' => e = .returned (.tuple #[]) ∧ WSs B gw (.slice L n c) (s ++ wk (nds l) k us (q : Int)) V' ∧ Below B0 V V' := by
  intro k
  induction k with
  | zero => intro q us P s V hd; exact absurd hd (by simp [Deep])
  | succ k ih =>
    intro q us P s V hd hq hP hPl hsl hF hW
    have IH := hide ih
    clear ih
    have HG0 := hide hg0
    have HB0 := hide h0
    obtain ⟨g, o, x, rfl, hg, hx, hok, hc⟩ := hF.at_ hq
    have hxr : ndAt (nds l) (q : Int) = x.r := nds_at hx
    have HD : Hid (∀ y ∈ x.r.names, isDir (nds l) y.node = true → Deep (nds l) k y.node) := hide (by rw [← hxr]; exact hd)
    have HREF : Hid (∀ y ∈ x.r.names, 0 ≤ y.node ∧ y.node < (n : Int)) := hide (fun y hy => by
      have h1 := hr x.r (by unfold nds; exact List.mem_map.2 ⟨x, List.mem_of_getElem? hx, rfl⟩) y hy
      rw [nds_length, hF.len] at h1
      exact h1)
    have HNL : Hid (∀ y ∈ x.r.names, y.name.length ≤ 300) := hide (fun y hy => (hfew x (List.mem_of_getElem? hx)).nm y hy)
    rw [wk_succ, hxr] at hsl ⊢
    have HLN : Hid (∀ (i : Nat) (y : NM), x.r.names[i]? = some y → s.length + (fl (nds l) k us (q : Int) x.r.names i).length + (wkN (nds l) k us (q : Int) y).length ≤ 100000) := hide (fun i y hy => by
      have h1 := congrArg List.length (fl_split (l := nds l) (k := k) (us := us) (d := (q : Int)) hy)
      rw [List.length_append, List.length_append] at h1
      omega)
    have hmn : x.mn ≤ 200 := by have := (hfew x (List.mem_of_getElem? hx)).n; have := hok.nl; omega
    have HM : Hid (∀ V', Below B0 V V' → Reads V' B0 2 x.M x.mn (ncs x.r.names)) := hide (fun V' hb => hok.n.below hb)
    have HFS : Hid (∀ V', Below B0 V V' → FsR V' B0 (some ⟨g, o, none⟩) n l) := hide (fun V' hb => hF.below hb)
    have HOKL := hide hok.nl
    have c4 := hc.2.2.2.2.1
    have i1 := fun W => nd_at g o n c q (q : Int) rfl hq W
    have HPP := hide hP
    have HW := hide hW
    obtain ⟨i0, hi, hz0, hz1, hz2⟩ := info_parts infoStr
    obtain ⟨j0, hj, hj0, hj1, hj2⟩ := info_parts infoInt
    obtain ⟨b1, b2, b3, b4, b5, b6, b7, b8, hbox⟩ := hW
    have e0 := hbox.box.cell 0
    have el := hbox.box.lt
    simp only [List.getElem?_toArray, List.getElem?_cons_zero] at e0
    clear hd hq hx hok hc hxr hr hfew hF hsl hP hbox hg0 h0
    go_enter Tryz.func95, Tryz.ntmps95
    go_wp2_with fail
    clear e0 el c4 i1
    obtain ⟨F, hFv⟩ : ∃ F : Value, Value.slice (some ⟨g, o, none⟩) n c = F := ⟨_, rfl⟩
    rw [hFv] at HW IH ⊢
    have HFV := hide hFv
    clear hFv
    go_loopw [7] (fun u7 wx => ∃ i : Nat, i ≤ x.mn ∧ u7 = .int .i64 (i : Int) ∧ Hid (WSs B gw F (s ++ fl (nds l) k us (q : Int) x.r.names i) wx) ∧ Hid (Below B0 V wx)) (fun i _ => x.mn - (intOf i).toNat)
    case atStart => exact ⟨0, Nat.zero_le _, rfl, hide (by simpa [fl] using HW.out), hide (Below.refl _ _)⟩
    case round =>
      clear HW
      obtain ⟨i, hi2, rfl, HW, HVV⟩ := hrel
      by_cases hin : i < x.mn
      · have hlt : (i : Int) < (x.mn : Int) := by omega
        obtain ⟨gm, om, y, hM, hgm, hy, n0, n1⟩ := nm_cells (HM.out _ HVV.out) hin
        have i2 := fun W => nm_at gm om x.mn x.mc i (i : Int) rfl hin W
        have HY := hide hy
        have HNM : Hid (∀ V', Below B0 V V' → V'.cell? ⟨gm, om + i * 2, none⟩ = some (.string ⟨y.name.toArray⟩) ∧ V'.cell? ⟨gm, om + i * 2 + 1, none⟩ = some (.int .i64 y.node)) := hide (fun V' hV' => by
          obtain ⟨gm', om', y', hM', hgm', hy', n0', n1'⟩ := nm_cells (HM.out _ hV') hin
          rw [hM] at hM'
          injection hM' with hM'
          injection hM' with e1 e2
          subst e1; subst e2
          obtain rfl : y = y' := by rw [hy] at hy'; injection hy'
          exact ⟨n0', n1'⟩)
        have hyl := HNL.out y (List.mem_of_getElem? hy)
        obtain ⟨hy0, hy1⟩ := HREF.out y (List.mem_of_getElem? hy)
        obtain ⟨P2, hP2⟩ : ∃ P2, P ++ 47 :: y.name = P2 := ⟨_, rfl⟩
        have hcat1 : ((⟨P.toArray⟩ : ByteArray) ++ (⟨#[47]⟩ : ByteArray)) = ⟨(P ++ [47]).toArray⟩ := by apply ByteArray.ext; simp
        have hcat2 : ((⟨(P ++ [47]).toArray⟩ : ByteArray) ++ (⟨y.name.toArray⟩ : ByteArray)) = ⟨P2.toArray⟩ := by rw [← hP2]; apply ByteArray.ext; simp
        have hl1 : ¬ 9223372036854775807 < P.length + 1 := by omega
        have hl2 : ¬ 9223372036854775807 < (P ++ [47]).length + y.name.length := by rw [List.length_append, List.length_singleton]; omega
        have HPE := hide hP2
        have HLEN := HLN.out i y hy
        obtain ⟨m, hm⟩ : ∃ m, (s ++ fl (nds l) k us (q : Int) x.r.names i).length = m := ⟨_, rfl⟩
        have hmb : m ≤ 100000 := by rw [← hm, List.length_append]; omega
        have hml : s.length + (fl (nds l) k us (q : Int) x.r.names i).length = m := by rw [← hm, List.length_append]
        have HML := hide hml
        have HMM := hide hm
        have HLENH := hide HLEN
        obtain ⟨X1, hX1⟩ : ∃ X, (s ++ fl (nds l) k us (q : Int) x.r.names i).map ST.dir = X := ⟨_, rfl⟩
        obtain ⟨X2, hX2⟩ : ∃ X, (s ++ fl (nds l) k us (q : Int) x.r.names i).map ST.name = X := ⟨_, rfl⟩
        obtain ⟨X3, hX3⟩ : ∃ X, (s ++ fl (nds l) k us (q : Int) x.r.names i).map pathP = X := ⟨_, rfl⟩
        obtain ⟨X4, hX4⟩ : ∃ X, (s ++ fl (nds l) k us (q : Int) x.r.names i).map ST.node = X := ⟨_, rfl⟩
        have HXS := hide (And.intro hX1 (And.intro hX2 (And.intro hX3 hX4)))
        have hWW := HW.out
        unfold WSs at hWW
        rw [hm, hX1, hX2, hX3, hX4] at hWW
        obtain ⟨A1, c1, A2, c2, A3, c3, A4, c4, hTT⟩ := hWW
        have HTT := hide hTT
        have HV0 := HVV
        rw [hM]
        clear hy hM hP2 hm hml HLEN hX1 hX2 hX3 hX4 hTT
        go_upto_region 5 with (fail)
        clear hcat1 hcat2 hl1 hl2
        go_cut [] (fun wx => Hid (WS B gw F (m + 1) (m + 1) m m (X1 ++ [(q : Int)]) (X2 ++ [y.name]) X3 X4 wx) ∧ Hid (Below B0 V wx))
        case first =>
          have hdr : Below B0 wr (World.drew wr) := bl_drewN (n := 1) (Below.refl _ _)
          obtain ⟨wd, hwd⟩ : ∃ W, World.drew wr = W := ⟨_, rfl⟩
          have HV := hide (HV0.out.trans hdr)
          have HT := hide (HTT.out.below (show Below (World.heap wr).size wr (World.drew wr) from bl_drewN (n := 1) (Below.refl _ _)))
          rw [hwd] at HV HT
          have s0 := HT.out.box.cell 1
          have s1 := HT.out.box.cell 2
          have s2 := (HNM.out _ HV.out).1
          simp only [List.getElem?_toArray, List.getElem?_cons_succ, List.getElem?_cons_zero] at s0 s1
          refine wp_region_K (fun V' : World => V'.cell? ⟨gw, 1, none⟩ = some (.slice A1 m c1) ∧ V'.cell? ⟨gw, 2, none⟩ = some (.slice A2 m c2) ∧ V'.cell? ⟨gm, om + i * 2, none⟩ = some (.string ⟨y.name.toArray⟩)) [22, 25] rfl (by rw [hwd]; exact ⟨s0, s1, s2⟩) (fun hHeld => ?_)
          rw [hwd] at hHeld ⊢
          clear hdr s0 s1 s2 hwd
          refine wpAnyK_take (i := 0) (v := ?_) rfl rfl (by kernel_rfl) (fun _ _ _ h => h) (Or.inl ⟨by rfl, ?_⟩) (by assumption) ?_
          rotate_left
          · (intro V hV; (try dsimp only at hV); go_simp; with_reducible rfl)
          try simp only [Act.put, List.setIfInBounds_toArray, List.set_cons_zero, List.set_cons_succ]
          refine wpAnyK_takeF (i := 1) (v := ?_) rfl rfl (by kernel_rfl) (fun _ _ _ h => h) (Or.inl ⟨by rfl, ?_⟩) ?_
          rotate_left
          · (intro V hV; (try dsimp only at hV); go_simp; with_reducible rfl)
          try simp only [Act.put, List.setIfInBounds_toArray, List.set_cons_zero, List.set_cons_succ]
          refine wpAnyK_take (i := 2) (v := ?_) rfl rfl (by kernel_rfl) (fun _ _ _ h => h) (Or.inl ⟨by rfl, ?_⟩) (by assumption) ?_
          rotate_left
          · (intro V hV; (try dsimp only at hV); go_simp; with_reducible rfl)
          try simp only [Act.put, List.setIfInBounds_toArray, List.set_cons_zero, List.set_cons_succ]
          refine wpAnyK_take (i := 3) (v := ?_) rfl rfl (by kernel_rfl) (fun _ _ _ h => h) (Or.inl ⟨by rfl, ?_⟩) (by assumption) ?_
          rotate_left
          · (intro V hV; (try dsimp only at hV); go_simp; with_reducible rfl)
          try simp only [Act.put, List.setIfInBounds_toArray, List.set_cons_zero, List.set_cons_succ]
          refine wpAnyK_take (i := 4) (v := ?_) rfl rfl (by kernel_rfl) (fun _ _ _ h => h) (Or.inl ⟨by rfl, ?_⟩) (by assumption) ?_
          rotate_left
          · (intro V hV; (try dsimp only at hV); go_simp; with_reducible rfl)
          try simp only [Act.put, List.setIfInBounds_toArray, List.set_cons_zero, List.set_cons_succ]
          refine wpAnyK_take (i := 5) (v := ?_) rfl rfl (by kernel_rfl) (fun _ _ _ h => h) (Or.inl ⟨by rfl, ?_⟩) (by assumption) ?_
          rotate_left
          · (intro V hV; (try dsimp only at hV); go_simp; with_reducible rfl)
          try simp only [Act.put, List.setIfInBounds_toArray, List.set_cons_zero, List.set_cons_succ]
          refine wpAnyK_take (i := 6) (v := ?_) rfl rfl (by kernel_rfl) (fun _ _ _ h => h) (Or.inl ⟨by rfl, ?_⟩) (by assumption) ?_
          rotate_left
          · (intro V hV; (try dsimp only at hV); go_simp; with_reducible rfl)
          try simp only [Act.put, List.setIfInBounds_toArray, List.set_cons_zero, List.set_cons_succ]
          refine wpAnyK_take (i := 9) (v := ?_) rfl rfl (by kernel_rfl) (fun _ _ _ h => h) (Or.inl ⟨by rfl, ?_⟩) (by assumption) ?_
          rotate_left
          · (intro V hV; (try dsimp only at hV); go_simp; with_reducible rfl)
          try simp only [Act.put, List.setIfInBounds_toArray, List.set_cons_zero, List.set_cons_succ]
          refine wpAnyK_take (i := 10) (v := ?_) rfl rfl (by kernel_rfl) (fun _ _ _ h => h) (Or.inl ⟨by rfl, ?_⟩) (by assumption) ?_
          rotate_left
          · (intro V hV; (try dsimp only at hV); go_simp; with_reducible rfl)
          try simp only [Act.put, List.setIfInBounds_toArray, List.set_cons_zero, List.set_cons_succ]
          refine wpAnyK_take (i := 11) (v := ?_) rfl rfl (by kernel_rfl) (fun _ _ _ h => h) (Or.inl ⟨by rfl, ?_⟩) (by assumption) ?_
          rotate_left
          · (intro V hV; (try dsimp only at hV); go_simp; with_reducible rfl)
          try simp only [Act.put, List.setIfInBounds_toArray, List.set_cons_zero, List.set_cons_succ]
          refine wpAnyK_take (i := 12) (v := ?_) rfl rfl (by kernel_rfl) (fun _ _ _ h => h) (Or.inl ⟨by rfl, ?_⟩) (by assumption) ?_
          rotate_left
          · (intro V hV; (try dsimp only at hV); go_simp; with_reducible rfl)
          try simp only [Act.put, List.setIfInBounds_toArray, List.set_cons_zero, List.set_cons_succ]
          refine wpAnyK_take (i := 13) (v := ?_) rfl rfl (by kernel_rfl) (fun _ _ _ h => h) (Or.inl ⟨by rfl, ?_⟩) (by assumption) ?_
          rotate_left
          · (intro V hV; (try dsimp only at hV); go_simp; with_reducible rfl)
          try simp only [Act.put, List.setIfInBounds_toArray, List.set_cons_zero, List.set_cons_succ]
          refine wpAnyK_take (i := 14) (v := ?_) rfl rfl (by kernel_rfl) (fun _ _ _ h => h) (Or.inl ⟨by rfl, ?_⟩) (by assumption) ?_
          rotate_left
          · (intro V hV; (try dsimp only at hV); go_simp; with_reducible rfl)
          try simp only [Act.put, List.setIfInBounds_toArray, List.set_cons_zero, List.set_cons_succ]
          refine wpAnyK_take (i := 15) (v := ?_) rfl rfl (by kernel_rfl) (fun _ _ _ h => h) (Or.inl ⟨by rfl, ?_⟩) (by assumption) ?_
          rotate_left
          · (intro V hV; (try dsimp only at hV); go_simp; with_reducible rfl)
          try simp only [Act.put, List.setIfInBounds_toArray, List.set_cons_zero, List.set_cons_succ]
          refine wpAnyK_take (i := 16) (v := ?_) rfl rfl (by kernel_rfl) (fun _ _ _ h => h) (Or.inl ⟨by rfl, ?_⟩) (by assumption) ?_
          rotate_left
          · (intro V hV; (try dsimp only at hV); go_simp; with_reducible rfl)
          try simp only [Act.put, List.setIfInBounds_toArray, List.set_cons_zero, List.set_cons_succ]
          refine wpAnyK_take (i := 17) (v := ?_) rfl rfl (by kernel_rfl) (fun _ _ _ h => h) (Or.inl ⟨by rfl, ?_⟩) (by assumption) ?_
          rotate_left
          · (intro V hV; (try dsimp only at hV); go_simp; with_reducible rfl)
          try simp only [Act.put, List.setIfInBounds_toArray, List.set_cons_zero, List.set_cons_succ]
          refine wpAnyK_two (i := 7) (j := 18) (by kernel_rfl) rfl rfl rfl rfl (fun K hK => ?_) (fun K hK => ?_)
          · skip
            go_simp
            obtain ⟨Wb1, hWb1⟩ : ∃ W, World.alloc wd (.cells #[.int .i64 (q : Int)] 3) = W := ⟨_, rfl⟩
            have hbb : Below (World.heap wd).size wd Wb1 := by rw [← hWb1]; exact on_alloc _ _
            have HV := hide (HV.out.trans (hbb.mono (by have h1 := HB0.out; have h2 := HT.out.sz; omega)))
            have HT := hide (HT.out.below hbb)
            have HA : Hid (Blk Wb1 (World.heap wd).size 3 #[.int .i64 (q : Int)]) := hide (by rw [← hWb1]; exact Blk.new _ _ _)
            have s0 := HT.out.box.cell 1
            have s1 := HT.out.box.cell 2
            have s2 := (HNM.out _ HV.out).1
            simp only [List.getElem?_toArray, List.getElem?_cons_succ, List.getElem?_cons_zero] at s0 s1
            rw [hWb1]
            refine hK.out _ _ (fun _ _ => ⟨s0, s1, s2⟩) ?_
            clear hK K hbb hWb1 s0 s1 s2
            try clear hHeld
            simp only [List.setIfInBounds_toArray]
            refine wpAnyK_two (i := 8) (j := 18) (by kernel_rfl) rfl rfl rfl rfl (fun K hK => ?_) (fun K hK => ?_)
            · skip
              have hr1 : Reads _ (World.heap Wb1).size 1 (some ⟨(World.heap wd).size, 0, none⟩) 1 (iv [(q : Int)]) := reads_blk HA.out rfl rfl
              refine step_append_any _ rfl (.tmp 37) (.tmp 39) 85 rfl B 3 j0 _ 1 8 Tryz.underlying85 hj hj0 hj1 hj2 rfl (by omega) (.slice A1 m c1) m (iv X1) rfl HT.out.r1 _ (some ⟨(World.heap wd).size, 0, none⟩) 1 1 (iv [(q : Int)]) rfl hr1 (iv_one _) (by unfold maxLen; omega) (by omega) HT.out.sz ?_
              intro v1 wa2 hown hg hat
              obtain ⟨N1, d1, rfl⟩ := own_slice hown
              rw [← iv_append] at hown
              have HV := hide (WR.grow HT.out.r1 HV.out hg HB0.out HT.out.sz)
              have HT := hide (HT.out.app1 hown hg hat)
              have s0 := HT.out.box.cell 1
              have s1 := HT.out.box.cell 2
              have s2 := (HNM.out _ HV.out).1
              simp only [List.getElem?_toArray, List.getElem?_cons_succ, List.getElem?_cons_zero] at s0 s1
              refine hK.out _ _ (fun _ _ => ⟨s0, s1, s2⟩) ?_
              clear hK K hr1 hown hg hat s0 s1 s2 HA
              simp only [List.setIfInBounds_toArray]
              refine wpAnyK_step (i := 18) (by kernel_rfl) rfl rfl (fun K hK => ?_)
              go_simp
              obtain ⟨Wb3, hWb3⟩ : ∃ W, World.alloc wa2 (.cells #[.string ⟨y.name.toArray⟩] 9) = W := ⟨_, rfl⟩
              have hbb : Below (World.heap wa2).size wa2 Wb3 := by rw [← hWb3]; exact on_alloc _ _
              have HV := hide (HV.out.trans (hbb.mono (by have h1 := HB0.out; have h2 := HT.out.sz; omega)))
              have HT := hide (HT.out.below hbb)
              have HBk : Hid (Blk Wb3 (World.heap wa2).size 9 #[.string ⟨y.name.toArray⟩]) := hide (by rw [← hWb3]; exact Blk.new _ _ _)
              have s0 := HT.out.box.cell 1
              have s1 := HT.out.box.cell 2
              have s2 := (HNM.out _ HV.out).1
              simp only [List.getElem?_toArray, List.getElem?_cons_succ, List.getElem?_cons_zero] at s0 s1
              rw [hWb3]
              refine hK.out _ _ (fun _ _ => ⟨s0, s1, s2⟩) ?_
              clear hK K hbb hWb3 s0 s1 s2
              try clear hHeld
              simp only [List.setIfInBounds_toArray]
              refine wpAnyK_step (i := 19) (by kernel_rfl) rfl rfl (fun K hK => ?_)
              have hr1 : Reads _ (World.heap Wb3).size 1 (some ⟨(World.heap wa2).size, 0, none⟩) 1 (svs [y.name]) := reads_blk HBk.out rfl rfl
              refine step_append_any _ rfl (.tmp 44) (.tmp 50) 111 rfl B 9 i0 _ 1 16 Tryz.underlying111 hi hz0 hz1 hz2 rfl (by omega) (.slice A2 m c2) m (svs X2) rfl HT.out.r2 _ (some ⟨(World.heap wa2).size, 0, none⟩) 1 1 (svs [y.name]) rfl hr1 (svs_one _) (by unfold maxLen; omega) (by omega) HT.out.sz ?_
              intro v2 wa4 hown hg hat
              obtain ⟨N2, d2, rfl⟩ := own_slice hown
              rw [← svs_append] at hown
              have HV := hide (WR.grow HT.out.r2 HV.out hg HB0.out HT.out.sz)
              have HT := hide (HT.out.app2 hown hg hat)
              have s0 := HT.out.box.cell 1
              have s1 := HT.out.box.cell 2
              have s2 := (HNM.out _ HV.out).1
              simp only [List.getElem?_toArray, List.getElem?_cons_succ, List.getElem?_cons_zero] at s0 s1
              refine hK.out _ _ (fun _ _ => ⟨s0, s1, s2⟩) ?_
              clear hK K hr1 hown hg hat s0 s1 s2 HBk
              simp only [List.setIfInBounds_toArray]
              refine wpAnyK_takeF (i := 20) (v := ?_) rfl rfl (by kernel_rfl) (fun _ _ _ h => h) (Or.inl ⟨by rfl, ?_⟩) ?_
              rotate_left
              · (intro V hV; (try dsimp only at hV); go_simp; with_reducible rfl)
              try simp only [Act.put, List.setIfInBounds_toArray, List.set_cons_zero, List.set_cons_succ]
              refine wpAnyK_takeF (i := 21) (v := ?_) rfl rfl (by kernel_rfl) (fun _ _ _ h => h) (Or.inl ⟨by rfl, ?_⟩) ?_
              rotate_left
              · (intro V hV; (try dsimp only at hV); go_simp; with_reducible rfl)
              try simp only [Act.put, List.setIfInBounds_toArray, List.set_cons_zero, List.set_cons_succ]
              obtain ⟨WS1, hWS1⟩ : ∃ W, World.setCell wa4 ⟨gw, 1, none⟩ (.slice N1 (m + 1) d1) = W := ⟨_, rfl⟩
              have T1 := HT.out.sto 1 (.slice N1 (m + 1) d1) (e1 := .slice N1 (m + 1) d1) (e2 := .slice A2 m c2) (e3 := .slice A3 m c3) (e4 := .slice A4 m c4) rfl
              rw [hWS1] at T1
              obtain ⟨WS2, hWS2⟩ : ∃ W, World.setCell WS1 ⟨gw, 2, none⟩ (.slice N2 (m + 1) d2) = W := ⟨_, rfl⟩
              have T2 := T1.sto 2 (.slice N2 (m + 1) d2) (e1 := .slice N1 (m + 1) d1) (e2 := .slice N2 (m + 1) d2) (e3 := .slice A3 m c3) (e4 := .slice A4 m c4) rfl
              rw [hWS2] at T2
              have HT2 := hide T2
              have HV2 : Hid (Below B0 V WS2) := hide (by rw [← hWS2, ← hWS1]; exact (HV.out.setCell (p := ⟨gw, 1, none⟩) HG0.out _).setCell (p := ⟨gw, 2, none⟩) HG0.out _)
              have f0 := HT.out.box.cell 1
              have f1 := HT.out.box.frozen 1
              have f2 := HT.out.box.lt
              have f3 := T1.box.cell 2
              have f4 := T1.box.frozen 2
              have f5 := T1.box.lt
              simp only [List.getElem?_toArray, List.getElem?_cons_succ, List.getElem?_cons_zero] at f0 f3
              clear T1 T2
              refine wpAnyK_step (i := 22) (by kernel_rfl) rfl rfl (fun K hK => ?_)
              go_simp
              refine hK.out _ _ (fun _ h => absurd (by simp) h) ?_
              clear hK K f0 f1 f2
              simp only [List.setIfInBounds_toArray]
              refine wpAnyK_takeF (i := 23) (v := ?_) rfl rfl (by kernel_rfl) (fun _ _ _ h => h) (Or.inl ⟨by rfl, ?_⟩) ?_
              rotate_left
              · (intro V hV; (try dsimp only at hV); go_simp; with_reducible rfl)
              try simp only [Act.put, List.setIfInBounds_toArray, List.set_cons_zero, List.set_cons_succ]
              refine wpAnyK_takeF (i := 24) (v := ?_) rfl rfl (by kernel_rfl) (fun _ _ _ h => h) (Or.inl ⟨by rfl, ?_⟩) ?_
              rotate_left
              · (intro V hV; (try dsimp only at hV); go_simp; with_reducible rfl)
              try simp only [Act.put, List.setIfInBounds_toArray, List.set_cons_zero, List.set_cons_succ]
              refine wpAnyK_step (i := 25) (by kernel_rfl) rfl rfl (fun K hK => ?_)
              go_simp
              refine hK.out _ _ (fun _ h => absurd (by simp) h) ?_
              clear hK K f3 f4 f5
              simp only [List.setIfInBounds_toArray]
              refine wpAnyK_done (by kernel_rfl) ?_ _
              (try simp only [Exit.then])
              go_wp2_with fail
              go_meet
              exact ⟨hide ⟨N1, d1, N2, d2, A3, c3, A4, c4, HT2.out⟩, HV2⟩
            · skip
              go_simp
              obtain ⟨Wb5, hWb5⟩ : ∃ W, World.alloc Wb1 (.cells #[.string ⟨y.name.toArray⟩] 9) = W := ⟨_, rfl⟩
              have hbb : Below (World.heap Wb1).size Wb1 Wb5 := by rw [← hWb5]; exact on_alloc _ _
              have HV := hide (HV.out.trans (hbb.mono (by have h1 := HB0.out; have h2 := HT.out.sz; omega)))
              have HT := hide (HT.out.below hbb)
              have HBk : Hid (Blk Wb5 (World.heap Wb1).size 9 #[.string ⟨y.name.toArray⟩]) := hide (by rw [← hWb5]; exact Blk.new _ _ _)
              have HA := hide (HA.out.below hbb HA.out.lt)
              have s0 := HT.out.box.cell 1
              have s1 := HT.out.box.cell 2
              have s2 := (HNM.out _ HV.out).1
              simp only [List.getElem?_toArray, List.getElem?_cons_succ, List.getElem?_cons_zero] at s0 s1
              rw [hWb5]
              refine hK.out _ _ (fun _ _ => ⟨s0, s1, s2⟩) ?_
              clear hK K hbb hWb5 s0 s1 s2
              try clear hHeld
              simp only [List.setIfInBounds_toArray]
              refine wpAnyK_step (i := 8) (by kernel_rfl) rfl rfl (fun K hK => ?_)
              have hr1 : Reads _ (World.heap Wb5).size 1 (some ⟨(World.heap wd).size, 0, none⟩) 1 (iv [(q : Int)]) := reads_blk HA.out rfl rfl
              refine step_append_any _ rfl (.tmp 37) (.tmp 39) 85 rfl B 3 j0 _ 1 8 Tryz.underlying85 hj hj0 hj1 hj2 rfl (by omega) (.slice A1 m c1) m (iv X1) rfl HT.out.r1 _ (some ⟨(World.heap wd).size, 0, none⟩) 1 1 (iv [(q : Int)]) rfl hr1 (iv_one _) (by unfold maxLen; omega) (by omega) HT.out.sz ?_
              intro v1 wa6 hown hg hat
              obtain ⟨N1, d1, rfl⟩ := own_slice hown
              rw [← iv_append] at hown
              have HBk := hide (HBk.out.grown hg (own_blk_ne HT.out.r1 HBk.out (by decide)).symm)
              have HV := hide (WR.grow HT.out.r1 HV.out hg HB0.out HT.out.sz)
              have HT := hide (HT.out.app1 hown hg hat)
              have s0 := HT.out.box.cell 1
              have s1 := HT.out.box.cell 2
              have s2 := (HNM.out _ HV.out).1
              simp only [List.getElem?_toArray, List.getElem?_cons_succ, List.getElem?_cons_zero] at s0 s1
              refine hK.out _ _ (fun _ _ => ⟨s0, s1, s2⟩) ?_
              clear hK K hr1 hown hg hat s0 s1 s2 HA
              simp only [List.setIfInBounds_toArray]
              refine wpAnyK_step (i := 19) (by kernel_rfl) rfl rfl (fun K hK => ?_)
              have hr1 : Reads _ (World.heap wa6).size 1 (some ⟨(World.heap Wb1).size, 0, none⟩) 1 (svs [y.name]) := reads_blk HBk.out rfl rfl
              refine step_append_any _ rfl (.tmp 44) (.tmp 50) 111 rfl B 9 i0 _ 1 16 Tryz.underlying111 hi hz0 hz1 hz2 rfl (by omega) (.slice A2 m c2) m (svs X2) rfl HT.out.r2 _ (some ⟨(World.heap Wb1).size, 0, none⟩) 1 1 (svs [y.name]) rfl hr1 (svs_one _) (by unfold maxLen; omega) (by omega) HT.out.sz ?_
              intro v2 wa7 hown hg hat
              obtain ⟨N2, d2, rfl⟩ := own_slice hown
              rw [← svs_append] at hown
              have HV := hide (WR.grow HT.out.r2 HV.out hg HB0.out HT.out.sz)
              have HT := hide (HT.out.app2 hown hg hat)
              have s0 := HT.out.box.cell 1
              have s1 := HT.out.box.cell 2
              have s2 := (HNM.out _ HV.out).1
              simp only [List.getElem?_toArray, List.getElem?_cons_succ, List.getElem?_cons_zero] at s0 s1
              refine hK.out _ _ (fun _ _ => ⟨s0, s1, s2⟩) ?_
              clear hK K hr1 hown hg hat s0 s1 s2 HBk
              simp only [List.setIfInBounds_toArray]
              refine wpAnyK_takeF (i := 20) (v := ?_) rfl rfl (by kernel_rfl) (fun _ _ _ h => h) (Or.inl ⟨by rfl, ?_⟩) ?_
              rotate_left
              · (intro V hV; (try dsimp only at hV); go_simp; with_reducible rfl)
              try simp only [Act.put, List.setIfInBounds_toArray, List.set_cons_zero, List.set_cons_succ]
              refine wpAnyK_takeF (i := 21) (v := ?_) rfl rfl (by kernel_rfl) (fun _ _ _ h => h) (Or.inl ⟨by rfl, ?_⟩) ?_
              rotate_left
              · (intro V hV; (try dsimp only at hV); go_simp; with_reducible rfl)
              try simp only [Act.put, List.setIfInBounds_toArray, List.set_cons_zero, List.set_cons_succ]
              obtain ⟨WS1, hWS1⟩ : ∃ W, World.setCell wa7 ⟨gw, 1, none⟩ (.slice N1 (m + 1) d1) = W := ⟨_, rfl⟩
              have T1 := HT.out.sto 1 (.slice N1 (m + 1) d1) (e1 := .slice N1 (m + 1) d1) (e2 := .slice A2 m c2) (e3 := .slice A3 m c3) (e4 := .slice A4 m c4) rfl
              rw [hWS1] at T1
              obtain ⟨WS2, hWS2⟩ : ∃ W, World.setCell WS1 ⟨gw, 2, none⟩ (.slice N2 (m + 1) d2) = W := ⟨_, rfl⟩
              have T2 := T1.sto 2 (.slice N2 (m + 1) d2) (e1 := .slice N1 (m + 1) d1) (e2 := .slice N2 (m + 1) d2) (e3 := .slice A3 m c3) (e4 := .slice A4 m c4) rfl
              rw [hWS2] at T2
              have HT2 := hide T2
              have HV2 : Hid (Below B0 V WS2) := hide (by rw [← hWS2, ← hWS1]; exact (HV.out.setCell (p := ⟨gw, 1, none⟩) HG0.out _).setCell (p := ⟨gw, 2, none⟩) HG0.out _)
              have f0 := HT.out.box.cell 1
              have f1 := HT.out.box.frozen 1
              have f2 := HT.out.box.lt
              have f3 := T1.box.cell 2
              have f4 := T1.box.frozen 2
              have f5 := T1.box.lt
              simp only [List.getElem?_toArray, List.getElem?_cons_succ, List.getElem?_cons_zero] at f0 f3
              clear T1 T2
              refine wpAnyK_step (i := 22) (by kernel_rfl) rfl rfl (fun K hK => ?_)
              go_simp
              refine hK.out _ _ (fun _ h => absurd (by simp) h) ?_
              clear hK K f0 f1 f2
              simp only [List.setIfInBounds_toArray]
              refine wpAnyK_takeF (i := 23) (v := ?_) rfl rfl (by kernel_rfl) (fun _ _ _ h => h) (Or.inl ⟨by rfl, ?_⟩) ?_
              rotate_left
              · (intro V hV; (try dsimp only at hV); go_simp; with_reducible rfl)
              try simp only [Act.put, List.setIfInBounds_toArray, List.set_cons_zero, List.set_cons_succ]
              refine wpAnyK_takeF (i := 24) (v := ?_) rfl rfl (by kernel_rfl) (fun _ _ _ h => h) (Or.inl ⟨by rfl, ?_⟩) ?_
              rotate_left
              · (intro V hV; (try dsimp only at hV); go_simp; with_reducible rfl)
              try simp only [Act.put, List.setIfInBounds_toArray, List.set_cons_zero, List.set_cons_succ]
              refine wpAnyK_step (i := 25) (by kernel_rfl) rfl rfl (fun K hK => ?_)
              go_simp
              refine hK.out _ _ (fun _ h => absurd (by simp) h) ?_
              clear hK K f3 f4 f5
              simp only [List.setIfInBounds_toArray]
              refine wpAnyK_done (by kernel_rfl) ?_ _
              (try simp only [Exit.then])
              go_wp2_with fail
              go_meet
              exact ⟨hide ⟨N1, d1, N2, d2, A3, c3, A4, c4, HT2.out⟩, HV2⟩
          · skip
            go_simp
            obtain ⟨Wb8, hWb8⟩ : ∃ W, World.alloc wd (.cells #[.string ⟨y.name.toArray⟩] 9) = W := ⟨_, rfl⟩
            have hbb : Below (World.heap wd).size wd Wb8 := by rw [← hWb8]; exact on_alloc _ _
            have HV := hide (HV.out.trans (hbb.mono (by have h1 := HB0.out; have h2 := HT.out.sz; omega)))
            have HT := hide (HT.out.below hbb)
            have HBk : Hid (Blk Wb8 (World.heap wd).size 9 #[.string ⟨y.name.toArray⟩]) := hide (by rw [← hWb8]; exact Blk.new _ _ _)
            have s0 := HT.out.box.cell 1
            have s1 := HT.out.box.cell 2
            have s2 := (HNM.out _ HV.out).1
            simp only [List.getElem?_toArray, List.getElem?_cons_succ, List.getElem?_cons_zero] at s0 s1
            rw [hWb8]
            refine hK.out _ _ (fun _ _ => ⟨s0, s1, s2⟩) ?_
            clear hK K hbb hWb8 s0 s1 s2
            try clear hHeld
            simp only [List.setIfInBounds_toArray]
            refine wpAnyK_step (i := 7) (by kernel_rfl) rfl rfl (fun K hK => ?_)
            go_simp
            obtain ⟨Wb9, hWb9⟩ : ∃ W, World.alloc Wb8 (.cells #[.int .i64 (q : Int)] 3) = W := ⟨_, rfl⟩
            have hbb : Below (World.heap Wb8).size Wb8 Wb9 := by rw [← hWb9]; exact on_alloc _ _
            have HV := hide (HV.out.trans (hbb.mono (by have h1 := HB0.out; have h2 := HT.out.sz; omega)))
            have HT := hide (HT.out.below hbb)
            have HA : Hid (Blk Wb9 (World.heap Wb8).size 3 #[.int .i64 (q : Int)]) := hide (by rw [← hWb9]; exact Blk.new _ _ _)
            have HBk := hide (HBk.out.below hbb HBk.out.lt)
            have s0 := HT.out.box.cell 1
            have s1 := HT.out.box.cell 2
            have s2 := (HNM.out _ HV.out).1
            simp only [List.getElem?_toArray, List.getElem?_cons_succ, List.getElem?_cons_zero] at s0 s1
            rw [hWb9]
            refine hK.out _ _ (fun _ _ => ⟨s0, s1, s2⟩) ?_
            clear hK K hbb hWb9 s0 s1 s2
            try clear hHeld
            simp only [List.setIfInBounds_toArray]
            refine wpAnyK_step (i := 8) (by kernel_rfl) rfl rfl (fun K hK => ?_)
            have hr1 : Reads _ (World.heap Wb9).size 1 (some ⟨(World.heap Wb8).size, 0, none⟩) 1 (iv [(q : Int)]) := reads_blk HA.out rfl rfl
            refine step_append_any _ rfl (.tmp 37) (.tmp 39) 85 rfl B 3 j0 _ 1 8 Tryz.underlying85 hj hj0 hj1 hj2 rfl (by omega) (.slice A1 m c1) m (iv X1) rfl HT.out.r1 _ (some ⟨(World.heap Wb8).size, 0, none⟩) 1 1 (iv [(q : Int)]) rfl hr1 (iv_one _) (by unfold maxLen; omega) (by omega) HT.out.sz ?_
            intro v1 wa10 hown hg hat
            obtain ⟨N1, d1, rfl⟩ := own_slice hown
            rw [← iv_append] at hown
            have HBk := hide (HBk.out.grown hg (own_blk_ne HT.out.r1 HBk.out (by decide)).symm)
            have HV := hide (WR.grow HT.out.r1 HV.out hg HB0.out HT.out.sz)
            have HT := hide (HT.out.app1 hown hg hat)
            have s0 := HT.out.box.cell 1
            have s1 := HT.out.box.cell 2
            have s2 := (HNM.out _ HV.out).1
            simp only [List.getElem?_toArray, List.getElem?_cons_succ, List.getElem?_cons_zero] at s0 s1
            refine hK.out _ _ (fun _ _ => ⟨s0, s1, s2⟩) ?_
            clear hK K hr1 hown hg hat s0 s1 s2 HA
            simp only [List.setIfInBounds_toArray]
            refine wpAnyK_step (i := 19) (by kernel_rfl) rfl rfl (fun K hK => ?_)
            have hr1 : Reads _ (World.heap wa10).size 1 (some ⟨(World.heap wd).size, 0, none⟩) 1 (svs [y.name]) := reads_blk HBk.out rfl rfl
            refine step_append_any _ rfl (.tmp 44) (.tmp 50) 111 rfl B 9 i0 _ 1 16 Tryz.underlying111 hi hz0 hz1 hz2 rfl (by omega) (.slice A2 m c2) m (svs X2) rfl HT.out.r2 _ (some ⟨(World.heap wd).size, 0, none⟩) 1 1 (svs [y.name]) rfl hr1 (svs_one _) (by unfold maxLen; omega) (by omega) HT.out.sz ?_
            intro v2 wa11 hown hg hat
            obtain ⟨N2, d2, rfl⟩ := own_slice hown
            rw [← svs_append] at hown
            have HV := hide (WR.grow HT.out.r2 HV.out hg HB0.out HT.out.sz)
            have HT := hide (HT.out.app2 hown hg hat)
            have s0 := HT.out.box.cell 1
            have s1 := HT.out.box.cell 2
            have s2 := (HNM.out _ HV.out).1
            simp only [List.getElem?_toArray, List.getElem?_cons_succ, List.getElem?_cons_zero] at s0 s1
            refine hK.out _ _ (fun _ _ => ⟨s0, s1, s2⟩) ?_
            clear hK K hr1 hown hg hat s0 s1 s2 HBk
            simp only [List.setIfInBounds_toArray]
            refine wpAnyK_takeF (i := 20) (v := ?_) rfl rfl (by kernel_rfl) (fun _ _ _ h => h) (Or.inl ⟨by rfl, ?_⟩) ?_
            rotate_left
            · (intro V hV; (try dsimp only at hV); go_simp; with_reducible rfl)
            try simp only [Act.put, List.setIfInBounds_toArray, List.set_cons_zero, List.set_cons_succ]
            refine wpAnyK_takeF (i := 21) (v := ?_) rfl rfl (by kernel_rfl) (fun _ _ _ h => h) (Or.inl ⟨by rfl, ?_⟩) ?_
            rotate_left
            · (intro V hV; (try dsimp only at hV); go_simp; with_reducible rfl)
            try simp only [Act.put, List.setIfInBounds_toArray, List.set_cons_zero, List.set_cons_succ]
            obtain ⟨WS1, hWS1⟩ : ∃ W, World.setCell wa11 ⟨gw, 1, none⟩ (.slice N1 (m + 1) d1) = W := ⟨_, rfl⟩
            have T1 := HT.out.sto 1 (.slice N1 (m + 1) d1) (e1 := .slice N1 (m + 1) d1) (e2 := .slice A2 m c2) (e3 := .slice A3 m c3) (e4 := .slice A4 m c4) rfl
            rw [hWS1] at T1
            obtain ⟨WS2, hWS2⟩ : ∃ W, World.setCell WS1 ⟨gw, 2, none⟩ (.slice N2 (m + 1) d2) = W := ⟨_, rfl⟩
            have T2 := T1.sto 2 (.slice N2 (m + 1) d2) (e1 := .slice N1 (m + 1) d1) (e2 := .slice N2 (m + 1) d2) (e3 := .slice A3 m c3) (e4 := .slice A4 m c4) rfl
            rw [hWS2] at T2
            have HT2 := hide T2
            have HV2 : Hid (Below B0 V WS2) := hide (by rw [← hWS2, ← hWS1]; exact (HV.out.setCell (p := ⟨gw, 1, none⟩) HG0.out _).setCell (p := ⟨gw, 2, none⟩) HG0.out _)
            have f0 := HT.out.box.cell 1
            have f1 := HT.out.box.frozen 1
            have f2 := HT.out.box.lt
            have f3 := T1.box.cell 2
            have f4 := T1.box.frozen 2
            have f5 := T1.box.lt
            simp only [List.getElem?_toArray, List.getElem?_cons_succ, List.getElem?_cons_zero] at f0 f3
            clear T1 T2
            refine wpAnyK_step (i := 22) (by kernel_rfl) rfl rfl (fun K hK => ?_)
            go_simp
            refine hK.out _ _ (fun _ h => absurd (by simp) h) ?_
            clear hK K f0 f1 f2
            simp only [List.setIfInBounds_toArray]
            refine wpAnyK_takeF (i := 23) (v := ?_) rfl rfl (by kernel_rfl) (fun _ _ _ h => h) (Or.inl ⟨by rfl, ?_⟩) ?_
            rotate_left
            · (intro V hV; (try dsimp only at hV); go_simp; with_reducible rfl)
            try simp only [Act.put, List.setIfInBounds_toArray, List.set_cons_zero, List.set_cons_succ]
            refine wpAnyK_takeF (i := 24) (v := ?_) rfl rfl (by kernel_rfl) (fun _ _ _ h => h) (Or.inl ⟨by rfl, ?_⟩) ?_
            rotate_left
            · (intro V hV; (try dsimp only at hV); go_simp; with_reducible rfl)
            try simp only [Act.put, List.setIfInBounds_toArray, List.set_cons_zero, List.set_cons_succ]
            refine wpAnyK_step (i := 25) (by kernel_rfl) rfl rfl (fun K hK => ?_)
            go_simp
            refine hK.out _ _ (fun _ h => absurd (by simp) h) ?_
            clear hK K f3 f4 f5
            simp only [List.setIfInBounds_toArray]
            refine wpAnyK_done (by kernel_rfl) ?_ _
            (try simp only [Exit.then])
            go_wp2_with fail
            go_meet
            exact ⟨hide ⟨N1, d1, N2, d2, A3, c3, A4, c4, HT2.out⟩, HV2⟩
        case rest =>
          clear HTT HV0
          obtain ⟨HWS5, HV0⟩ := hcut
          obtain ⟨A1, c1, A2, c2, A3, c3, A4, c4, hTT⟩ := HWS5.out
          have HTT := hide hTT
          clear hTT HWS5
          go_upto_region 6 with (fail)
          go_cut [] (fun wx => Hid (WS B gw F (m + 1) (m + 1) (m + 1) (m + 1) (X1 ++ [(q : Int)]) (X2 ++ [y.name]) (X3 ++ [P2]) (X4 ++ [y.node]) wx) ∧ Hid (Below B0 V wx))
          case first =>
            have hdr : Below B0 wc (World.drew wc) := bl_drewN (n := 1) (Below.refl _ _)
            obtain ⟨wd, hwd⟩ : ∃ W, World.drew wc = W := ⟨_, rfl⟩
            have HV := hide (HV0.out.trans hdr)
            have HT := hide (HTT.out.below (show Below (World.heap wc).size wc (World.drew wc) from bl_drewN (n := 1) (Below.refl _ _)))
            rw [hwd] at HV HT
            have s0 := HT.out.box.cell 3
            have s1 := HT.out.box.cell 4
            have s2 := (HNM.out _ HV.out).2
            simp only [List.getElem?_toArray, List.getElem?_cons_succ, List.getElem?_cons_zero] at s0 s1
            refine wp_region_K (fun V' : World => V'.cell? ⟨gw, 3, none⟩ = some (.slice A3 m c3) ∧ V'.cell? ⟨gw, 4, none⟩ = some (.slice A4 m c4) ∧ V'.cell? ⟨gm, om + i * 2 + 1, none⟩ = some (.int .i64 y.node)) [22, 25] rfl (by rw [hwd]; exact ⟨s0, s1, s2⟩) (fun hHeld => ?_)
            rw [hwd] at hHeld ⊢
            clear hdr s0 s1 s2 hwd
            refine wpAnyK_take (i := 0) (v := ?_) rfl rfl (by kernel_rfl) (fun _ _ _ h => h) (Or.inl ⟨by rfl, ?_⟩) (by assumption) ?_
            rotate_left
            · (intro V hV; (try dsimp only at hV); go_simp; with_reducible rfl)
            try simp only [Act.put, List.setIfInBounds_toArray, List.set_cons_zero, List.set_cons_succ]
            refine wpAnyK_takeF (i := 1) (v := ?_) rfl rfl (by kernel_rfl) (fun _ _ _ h => h) (Or.inl ⟨by rfl, ?_⟩) ?_
            rotate_left
            · (intro V hV; (try dsimp only at hV); go_simp; with_reducible rfl)
            try simp only [Act.put, List.setIfInBounds_toArray, List.set_cons_zero, List.set_cons_succ]
            refine wpAnyK_take (i := 2) (v := ?_) rfl rfl (by kernel_rfl) (fun _ _ _ h => h) (Or.inl ⟨by rfl, ?_⟩) (by assumption) ?_
            rotate_left
            · (intro V hV; (try dsimp only at hV); go_simp; with_reducible rfl)
            try simp only [Act.put, List.setIfInBounds_toArray, List.set_cons_zero, List.set_cons_succ]
            refine wpAnyK_take (i := 3) (v := ?_) rfl rfl (by kernel_rfl) (fun _ _ _ h => h) (Or.inl ⟨by rfl, ?_⟩) (by assumption) ?_
            rotate_left
            · (intro V hV; (try dsimp only at hV); go_simp; with_reducible rfl)
            try simp only [Act.put, List.setIfInBounds_toArray, List.set_cons_zero, List.set_cons_succ]
            refine wpAnyK_take (i := 4) (v := ?_) rfl rfl (by kernel_rfl) (fun _ _ _ h => h) (Or.inl ⟨by rfl, ?_⟩) (by assumption) ?_
            rotate_left
            · (intro V hV; (try dsimp only at hV); go_simp; with_reducible rfl)
            try simp only [Act.put, List.setIfInBounds_toArray, List.set_cons_zero, List.set_cons_succ]
            refine wpAnyK_take (i := 5) (v := ?_) rfl rfl (by kernel_rfl) (fun _ _ _ h => h) (Or.inl ⟨by rfl, ?_⟩) (by assumption) ?_
            rotate_left
            · (intro V hV; (try dsimp only at hV); go_simp; with_reducible rfl)
            try simp only [Act.put, List.setIfInBounds_toArray, List.set_cons_zero, List.set_cons_succ]
            refine wpAnyK_take (i := 6) (v := ?_) rfl rfl (by kernel_rfl) (fun _ _ _ h => h) (Or.inl ⟨by rfl, ?_⟩) (by assumption) ?_
            rotate_left
            · (intro V hV; (try dsimp only at hV); go_simp; with_reducible rfl)
            try simp only [Act.put, List.setIfInBounds_toArray, List.set_cons_zero, List.set_cons_succ]
            refine wpAnyK_take (i := 9) (v := ?_) rfl rfl (by kernel_rfl) (fun _ _ _ h => h) (Or.inl ⟨by rfl, ?_⟩) (by assumption) ?_
            rotate_left
            · (intro V hV; (try dsimp only at hV); go_simp; with_reducible rfl)
            try simp only [Act.put, List.setIfInBounds_toArray, List.set_cons_zero, List.set_cons_succ]
            refine wpAnyK_take (i := 10) (v := ?_) rfl rfl (by kernel_rfl) (fun _ _ _ h => h) (Or.inl ⟨by rfl, ?_⟩) (by assumption) ?_
            rotate_left
            · (intro V hV; (try dsimp only at hV); go_simp; with_reducible rfl)
            try simp only [Act.put, List.setIfInBounds_toArray, List.set_cons_zero, List.set_cons_succ]
            refine wpAnyK_take (i := 11) (v := ?_) rfl rfl (by kernel_rfl) (fun _ _ _ h => h) (Or.inl ⟨by rfl, ?_⟩) (by assumption) ?_
            rotate_left
            · (intro V hV; (try dsimp only at hV); go_simp; with_reducible rfl)
            try simp only [Act.put, List.setIfInBounds_toArray, List.set_cons_zero, List.set_cons_succ]
            refine wpAnyK_take (i := 12) (v := ?_) rfl rfl (by kernel_rfl) (fun _ _ _ h => h) (Or.inl ⟨by rfl, ?_⟩) (by assumption) ?_
            rotate_left
            · (intro V hV; (try dsimp only at hV); go_simp; with_reducible rfl)
            try simp only [Act.put, List.setIfInBounds_toArray, List.set_cons_zero, List.set_cons_succ]
            refine wpAnyK_take (i := 13) (v := ?_) rfl rfl (by kernel_rfl) (fun _ _ _ h => h) (Or.inl ⟨by rfl, ?_⟩) (by assumption) ?_
            rotate_left
            · (intro V hV; (try dsimp only at hV); go_simp; with_reducible rfl)
            try simp only [Act.put, List.setIfInBounds_toArray, List.set_cons_zero, List.set_cons_succ]
            refine wpAnyK_take (i := 14) (v := ?_) rfl rfl (by kernel_rfl) (fun _ _ _ h => h) (Or.inl ⟨by rfl, ?_⟩) (by assumption) ?_
            rotate_left
            · (intro V hV; (try dsimp only at hV); go_simp; with_reducible rfl)
            try simp only [Act.put, List.setIfInBounds_toArray, List.set_cons_zero, List.set_cons_succ]
            refine wpAnyK_take (i := 15) (v := ?_) rfl rfl (by kernel_rfl) (fun _ _ _ h => h) (Or.inl ⟨by rfl, ?_⟩) (by assumption) ?_
            rotate_left
            · (intro V hV; (try dsimp only at hV); go_simp; with_reducible rfl)
            try simp only [Act.put, List.setIfInBounds_toArray, List.set_cons_zero, List.set_cons_succ]
            refine wpAnyK_take (i := 16) (v := ?_) rfl rfl (by kernel_rfl) (fun _ _ _ h => h) (Or.inl ⟨by rfl, ?_⟩) (by assumption) ?_
            rotate_left
            · (intro V hV; (try dsimp only at hV); go_simp; with_reducible rfl)
            try simp only [Act.put, List.setIfInBounds_toArray, List.set_cons_zero, List.set_cons_succ]
            refine wpAnyK_take (i := 17) (v := ?_) rfl rfl (by kernel_rfl) (fun _ _ _ h => h) (Or.inl ⟨by rfl, ?_⟩) (by assumption) ?_
            rotate_left
            · (intro V hV; (try dsimp only at hV); go_simp; with_reducible rfl)
            try simp only [Act.put, List.setIfInBounds_toArray, List.set_cons_zero, List.set_cons_succ]
            refine wpAnyK_two (i := 7) (j := 18) (by kernel_rfl) rfl rfl rfl rfl (fun K hK => ?_) (fun K hK => ?_)
            · skip
              go_simp
              obtain ⟨Wb1, hWb1⟩ : ∃ W, World.alloc wd (.cells #[.string ⟨P2.toArray⟩] 9) = W := ⟨_, rfl⟩
              have hbb : Below (World.heap wd).size wd Wb1 := by rw [← hWb1]; exact on_alloc _ _
              have HV := hide (HV.out.trans (hbb.mono (by have h1 := HB0.out; have h2 := HT.out.sz; omega)))
              have HT := hide (HT.out.below hbb)
              have HA : Hid (Blk Wb1 (World.heap wd).size 9 #[.string ⟨P2.toArray⟩]) := hide (by rw [← hWb1]; exact Blk.new _ _ _)
              have s0 := HT.out.box.cell 3
              have s1 := HT.out.box.cell 4
              have s2 := (HNM.out _ HV.out).2
              simp only [List.getElem?_toArray, List.getElem?_cons_succ, List.getElem?_cons_zero] at s0 s1
              rw [hWb1]
              refine hK.out _ _ (fun _ _ => ⟨s0, s1, s2⟩) ?_
              clear hK K hbb hWb1 s0 s1 s2
              try clear hHeld
              simp only [List.setIfInBounds_toArray]
              refine wpAnyK_two (i := 8) (j := 18) (by kernel_rfl) rfl rfl rfl rfl (fun K hK => ?_) (fun K hK => ?_)
              · skip
                have hr1 : Reads _ (World.heap Wb1).size 1 (some ⟨(World.heap wd).size, 0, none⟩) 1 (svs [P2]) := reads_blk HA.out rfl rfl
                refine step_append_any _ rfl (.tmp 61) (.tmp 63) 111 rfl B 9 i0 _ 1 16 Tryz.underlying111 hi hz0 hz1 hz2 rfl (by omega) (.slice A3 m c3) m (svs X3) rfl HT.out.r3 _ (some ⟨(World.heap wd).size, 0, none⟩) 1 1 (svs [P2]) rfl hr1 (svs_one _) (by unfold maxLen; omega) (by omega) HT.out.sz ?_
                intro v3 wa2 hown hg hat
                obtain ⟨N3, d3, rfl⟩ := own_slice hown
                rw [← svs_append] at hown
                have HV := hide (WR.grow HT.out.r3 HV.out hg HB0.out HT.out.sz)
                have HT := hide (HT.out.app3 hown hg hat)
                have s0 := HT.out.box.cell 3
                have s1 := HT.out.box.cell 4
                have s2 := (HNM.out _ HV.out).2
                simp only [List.getElem?_toArray, List.getElem?_cons_succ, List.getElem?_cons_zero] at s0 s1
                refine hK.out _ _ (fun _ _ => ⟨s0, s1, s2⟩) ?_
                clear hK K hr1 hown hg hat s0 s1 s2 HA
                simp only [List.setIfInBounds_toArray]
                refine wpAnyK_step (i := 18) (by kernel_rfl) rfl rfl (fun K hK => ?_)
                go_simp
                obtain ⟨Wb3, hWb3⟩ : ∃ W, World.alloc wa2 (.cells #[.int .i64 y.node] 3) = W := ⟨_, rfl⟩
                have hbb : Below (World.heap wa2).size wa2 Wb3 := by rw [← hWb3]; exact on_alloc _ _
                have HV := hide (HV.out.trans (hbb.mono (by have h1 := HB0.out; have h2 := HT.out.sz; omega)))
                have HT := hide (HT.out.below hbb)
                have HBk : Hid (Blk Wb3 (World.heap wa2).size 3 #[.int .i64 y.node]) := hide (by rw [← hWb3]; exact Blk.new _ _ _)
                have s0 := HT.out.box.cell 3
                have s1 := HT.out.box.cell 4
                have s2 := (HNM.out _ HV.out).2
                simp only [List.getElem?_toArray, List.getElem?_cons_succ, List.getElem?_cons_zero] at s0 s1
                rw [hWb3]
                refine hK.out _ _ (fun _ _ => ⟨s0, s1, s2⟩) ?_
                clear hK K hbb hWb3 s0 s1 s2
                try clear hHeld
                simp only [List.setIfInBounds_toArray]
                refine wpAnyK_step (i := 19) (by kernel_rfl) rfl rfl (fun K hK => ?_)
                have hr1 : Reads _ (World.heap Wb3).size 1 (some ⟨(World.heap wa2).size, 0, none⟩) 1 (iv [y.node]) := reads_blk HBk.out rfl rfl
                refine step_append_any _ rfl (.tmp 68) (.tmp 74) 85 rfl B 3 j0 _ 1 8 Tryz.underlying85 hj hj0 hj1 hj2 rfl (by omega) (.slice A4 m c4) m (iv X4) rfl HT.out.r4 _ (some ⟨(World.heap wa2).size, 0, none⟩) 1 1 (iv [y.node]) rfl hr1 (iv_one _) (by unfold maxLen; omega) (by omega) HT.out.sz ?_
                intro v4 wa4 hown hg hat
                obtain ⟨N4, d4, rfl⟩ := own_slice hown
                rw [← iv_append] at hown
                have HV := hide (WR.grow HT.out.r4 HV.out hg HB0.out HT.out.sz)
                have HT := hide (HT.out.app4 hown hg hat)
                have s0 := HT.out.box.cell 3
                have s1 := HT.out.box.cell 4
                have s2 := (HNM.out _ HV.out).2
                simp only [List.getElem?_toArray, List.getElem?_cons_succ, List.getElem?_cons_zero] at s0 s1
                refine hK.out _ _ (fun _ _ => ⟨s0, s1, s2⟩) ?_
                clear hK K hr1 hown hg hat s0 s1 s2 HBk
                simp only [List.setIfInBounds_toArray]
                refine wpAnyK_takeF (i := 20) (v := ?_) rfl rfl (by kernel_rfl) (fun _ _ _ h => h) (Or.inl ⟨by rfl, ?_⟩) ?_
                rotate_left
                · (intro V hV; (try dsimp only at hV); go_simp; with_reducible rfl)
                try simp only [Act.put, List.setIfInBounds_toArray, List.set_cons_zero, List.set_cons_succ]
                refine wpAnyK_takeF (i := 21) (v := ?_) rfl rfl (by kernel_rfl) (fun _ _ _ h => h) (Or.inl ⟨by rfl, ?_⟩) ?_
                rotate_left
                · (intro V hV; (try dsimp only at hV); go_simp; with_reducible rfl)
                try simp only [Act.put, List.setIfInBounds_toArray, List.set_cons_zero, List.set_cons_succ]
                obtain ⟨WS1, hWS1⟩ : ∃ W, World.setCell wa4 ⟨gw, 3, none⟩ (.slice N3 (m + 1) d3) = W := ⟨_, rfl⟩
                have T1 := HT.out.sto 3 (.slice N3 (m + 1) d3) (e1 := .slice A1 (m + 1) c1) (e2 := .slice A2 (m + 1) c2) (e3 := .slice N3 (m + 1) d3) (e4 := .slice A4 m c4) rfl
                rw [hWS1] at T1
                obtain ⟨WS2, hWS2⟩ : ∃ W, World.setCell WS1 ⟨gw, 4, none⟩ (.slice N4 (m + 1) d4) = W := ⟨_, rfl⟩
                have T2 := T1.sto 4 (.slice N4 (m + 1) d4) (e1 := .slice A1 (m + 1) c1) (e2 := .slice A2 (m + 1) c2) (e3 := .slice N3 (m + 1) d3) (e4 := .slice N4 (m + 1) d4) rfl
                rw [hWS2] at T2
                have HT2 := hide T2
                have HV2 : Hid (Below B0 V WS2) := hide (by rw [← hWS2, ← hWS1]; exact (HV.out.setCell (p := ⟨gw, 3, none⟩) HG0.out _).setCell (p := ⟨gw, 4, none⟩) HG0.out _)
                have f0 := HT.out.box.cell 3
                have f1 := HT.out.box.frozen 3
                have f2 := HT.out.box.lt
                have f3 := T1.box.cell 4
                have f4 := T1.box.frozen 4
                have f5 := T1.box.lt
                simp only [List.getElem?_toArray, List.getElem?_cons_succ, List.getElem?_cons_zero] at f0 f3
                clear T1 T2
                refine wpAnyK_step (i := 22) (by kernel_rfl) rfl rfl (fun K hK => ?_)
                go_simp
                refine hK.out _ _ (fun _ h => absurd (by simp) h) ?_
                clear hK K f0 f1 f2
                simp only [List.setIfInBounds_toArray]
                refine wpAnyK_takeF (i := 23) (v := ?_) rfl rfl (by kernel_rfl) (fun _ _ _ h => h) (Or.inl ⟨by rfl, ?_⟩) ?_
                rotate_left
                · (intro V hV; (try dsimp only at hV); go_simp; with_reducible rfl)
                try simp only [Act.put, List.setIfInBounds_toArray, List.set_cons_zero, List.set_cons_succ]
                refine wpAnyK_takeF (i := 24) (v := ?_) rfl rfl (by kernel_rfl) (fun _ _ _ h => h) (Or.inl ⟨by rfl, ?_⟩) ?_
                rotate_left
                · (intro V hV; (try dsimp only at hV); go_simp; with_reducible rfl)
                try simp only [Act.put, List.setIfInBounds_toArray, List.set_cons_zero, List.set_cons_succ]
                refine wpAnyK_step (i := 25) (by kernel_rfl) rfl rfl (fun K hK => ?_)
                go_simp
                refine hK.out _ _ (fun _ h => absurd (by simp) h) ?_
                clear hK K f3 f4 f5
                simp only [List.setIfInBounds_toArray]
                refine wpAnyK_done (by kernel_rfl) ?_ _
                (try simp only [Exit.then])
                go_wp2_with fail
                go_meet
                exact ⟨hide ⟨A1, c1, A2, c2, N3, d3, N4, d4, HT2.out⟩, HV2⟩
              · skip
                go_simp
                obtain ⟨Wb5, hWb5⟩ : ∃ W, World.alloc Wb1 (.cells #[.int .i64 y.node] 3) = W := ⟨_, rfl⟩
                have hbb : Below (World.heap Wb1).size Wb1 Wb5 := by rw [← hWb5]; exact on_alloc _ _
                have HV := hide (HV.out.trans (hbb.mono (by have h1 := HB0.out; have h2 := HT.out.sz; omega)))
                have HT := hide (HT.out.below hbb)
                have HBk : Hid (Blk Wb5 (World.heap Wb1).size 3 #[.int .i64 y.node]) := hide (by rw [← hWb5]; exact Blk.new _ _ _)
                have HA := hide (HA.out.below hbb HA.out.lt)
                have s0 := HT.out.box.cell 3
                have s1 := HT.out.box.cell 4
                have s2 := (HNM.out _ HV.out).2
                simp only [List.getElem?_toArray, List.getElem?_cons_succ, List.getElem?_cons_zero] at s0 s1
                rw [hWb5]
                refine hK.out _ _ (fun _ _ => ⟨s0, s1, s2⟩) ?_
                clear hK K hbb hWb5 s0 s1 s2
                try clear hHeld
                simp only [List.setIfInBounds_toArray]
                refine wpAnyK_step (i := 8) (by kernel_rfl) rfl rfl (fun K hK => ?_)
                have hr1 : Reads _ (World.heap Wb5).size 1 (some ⟨(World.heap wd).size, 0, none⟩) 1 (svs [P2]) := reads_blk HA.out rfl rfl
                refine step_append_any _ rfl (.tmp 61) (.tmp 63) 111 rfl B 9 i0 _ 1 16 Tryz.underlying111 hi hz0 hz1 hz2 rfl (by omega) (.slice A3 m c3) m (svs X3) rfl HT.out.r3 _ (some ⟨(World.heap wd).size, 0, none⟩) 1 1 (svs [P2]) rfl hr1 (svs_one _) (by unfold maxLen; omega) (by omega) HT.out.sz ?_
                intro v3 wa6 hown hg hat
                obtain ⟨N3, d3, rfl⟩ := own_slice hown
                rw [← svs_append] at hown
                have HBk := hide (HBk.out.grown hg (own_blk_ne HT.out.r3 HBk.out (by decide)).symm)
                have HV := hide (WR.grow HT.out.r3 HV.out hg HB0.out HT.out.sz)
                have HT := hide (HT.out.app3 hown hg hat)
                have s0 := HT.out.box.cell 3
                have s1 := HT.out.box.cell 4
                have s2 := (HNM.out _ HV.out).2
                simp only [List.getElem?_toArray, List.getElem?_cons_succ, List.getElem?_cons_zero] at s0 s1
                refine hK.out _ _ (fun _ _ => ⟨s0, s1, s2⟩) ?_
                clear hK K hr1 hown hg hat s0 s1 s2 HA
                simp only [List.setIfInBounds_toArray]
                refine wpAnyK_step (i := 19) (by kernel_rfl) rfl rfl (fun K hK => ?_)
                have hr1 : Reads _ (World.heap wa6).size 1 (some ⟨(World.heap Wb1).size, 0, none⟩) 1 (iv [y.node]) := reads_blk HBk.out rfl rfl
                refine step_append_any _ rfl (.tmp 68) (.tmp 74) 85 rfl B 3 j0 _ 1 8 Tryz.underlying85 hj hj0 hj1 hj2 rfl (by omega) (.slice A4 m c4) m (iv X4) rfl HT.out.r4 _ (some ⟨(World.heap Wb1).size, 0, none⟩) 1 1 (iv [y.node]) rfl hr1 (iv_one _) (by unfold maxLen; omega) (by omega) HT.out.sz ?_
                intro v4 wa7 hown hg hat
                obtain ⟨N4, d4, rfl⟩ := own_slice hown
                rw [← iv_append] at hown
                have HV := hide (WR.grow HT.out.r4 HV.out hg HB0.out HT.out.sz)
                have HT := hide (HT.out.app4 hown hg hat)
                have s0 := HT.out.box.cell 3
                have s1 := HT.out.box.cell 4
                have s2 := (HNM.out _ HV.out).2
                simp only [List.getElem?_toArray, List.getElem?_cons_succ, List.getElem?_cons_zero] at s0 s1
                refine hK.out _ _ (fun _ _ => ⟨s0, s1, s2⟩) ?_
                clear hK K hr1 hown hg hat s0 s1 s2 HBk
                simp only [List.setIfInBounds_toArray]
                refine wpAnyK_takeF (i := 20) (v := ?_) rfl rfl (by kernel_rfl) (fun _ _ _ h => h) (Or.inl ⟨by rfl, ?_⟩) ?_
                rotate_left
                · (intro V hV; (try dsimp only at hV); go_simp; with_reducible rfl)
                try simp only [Act.put, List.setIfInBounds_toArray, List.set_cons_zero, List.set_cons_succ]
                refine wpAnyK_takeF (i := 21) (v := ?_) rfl rfl (by kernel_rfl) (fun _ _ _ h => h) (Or.inl ⟨by rfl, ?_⟩) ?_
                rotate_left
                · (intro V hV; (try dsimp only at hV); go_simp; with_reducible rfl)
                try simp only [Act.put, List.setIfInBounds_toArray, List.set_cons_zero, List.set_cons_succ]
                obtain ⟨WS1, hWS1⟩ : ∃ W, World.setCell wa7 ⟨gw, 3, none⟩ (.slice N3 (m + 1) d3) = W := ⟨_, rfl⟩
                have T1 := HT.out.sto 3 (.slice N3 (m + 1) d3) (e1 := .slice A1 (m + 1) c1) (e2 := .slice A2 (m + 1) c2) (e3 := .slice N3 (m + 1) d3) (e4 := .slice A4 m c4) rfl
                rw [hWS1] at T1
                obtain ⟨WS2, hWS2⟩ : ∃ W, World.setCell WS1 ⟨gw, 4, none⟩ (.slice N4 (m + 1) d4) = W := ⟨_, rfl⟩
                have T2 := T1.sto 4 (.slice N4 (m + 1) d4) (e1 := .slice A1 (m + 1) c1) (e2 := .slice A2 (m + 1) c2) (e3 := .slice N3 (m + 1) d3) (e4 := .slice N4 (m + 1) d4) rfl
                rw [hWS2] at T2
                have HT2 := hide T2
                have HV2 : Hid (Below B0 V WS2) := hide (by rw [← hWS2, ← hWS1]; exact (HV.out.setCell (p := ⟨gw, 3, none⟩) HG0.out _).setCell (p := ⟨gw, 4, none⟩) HG0.out _)
                have f0 := HT.out.box.cell 3
                have f1 := HT.out.box.frozen 3
                have f2 := HT.out.box.lt
                have f3 := T1.box.cell 4
                have f4 := T1.box.frozen 4
                have f5 := T1.box.lt
                simp only [List.getElem?_toArray, List.getElem?_cons_succ, List.getElem?_cons_zero] at f0 f3
                clear T1 T2
                refine wpAnyK_step (i := 22) (by kernel_rfl) rfl rfl (fun K hK => ?_)
                go_simp
                refine hK.out _ _ (fun _ h => absurd (by simp) h) ?_
                clear hK K f0 f1 f2
                simp only [List.setIfInBounds_toArray]
                refine wpAnyK_takeF (i := 23) (v := ?_) rfl rfl (by kernel_rfl) (fun _ _ _ h => h) (Or.inl ⟨by rfl, ?_⟩) ?_
                rotate_left
                · (intro V hV; (try dsimp only at hV); go_simp; with_reducible rfl)
                try simp only [Act.put, List.setIfInBounds_toArray, List.set_cons_zero, List.set_cons_succ]
                refine wpAnyK_takeF (i := 24) (v := ?_) rfl rfl (by kernel_rfl) (fun _ _ _ h => h) (Or.inl ⟨by rfl, ?_⟩) ?_
                rotate_left
                · (intro V hV; (try dsimp only at hV); go_simp; with_reducible rfl)
                try simp only [Act.put, List.setIfInBounds_toArray, List.set_cons_zero, List.set_cons_succ]
                refine wpAnyK_step (i := 25) (by kernel_rfl) rfl rfl (fun K hK => ?_)
                go_simp
                refine hK.out _ _ (fun _ h => absurd (by simp) h) ?_
                clear hK K f3 f4 f5
                simp only [List.setIfInBounds_toArray]
                refine wpAnyK_done (by kernel_rfl) ?_ _
                (try simp only [Exit.then])
                go_wp2_with fail
                go_meet
                exact ⟨hide ⟨A1, c1, A2, c2, N3, d3, N4, d4, HT2.out⟩, HV2⟩
            · skip
              go_simp
              obtain ⟨Wb8, hWb8⟩ : ∃ W, World.alloc wd (.cells #[.int .i64 y.node] 3) = W := ⟨_, rfl⟩
              have hbb : Below (World.heap wd).size wd Wb8 := by rw [← hWb8]; exact on_alloc _ _
              have HV := hide (HV.out.trans (hbb.mono (by have h1 := HB0.out; have h2 := HT.out.sz; omega)))
              have HT := hide (HT.out.below hbb)
              have HBk : Hid (Blk Wb8 (World.heap wd).size 3 #[.int .i64 y.node]) := hide (by rw [← hWb8]; exact Blk.new _ _ _)
              have s0 := HT.out.box.cell 3
              have s1 := HT.out.box.cell 4
              have s2 := (HNM.out _ HV.out).2
              simp only [List.getElem?_toArray, List.getElem?_cons_succ, List.getElem?_cons_zero] at s0 s1
              rw [hWb8]
              refine hK.out _ _ (fun _ _ => ⟨s0, s1, s2⟩) ?_
              clear hK K hbb hWb8 s0 s1 s2
              try clear hHeld
              simp only [List.setIfInBounds_toArray]
              refine wpAnyK_step (i := 7) (by kernel_rfl) rfl rfl (fun K hK => ?_)
              go_simp
              obtain ⟨Wb9, hWb9⟩ : ∃ W, World.alloc Wb8 (.cells #[.string ⟨P2.toArray⟩] 9) = W := ⟨_, rfl⟩
              have hbb : Below (World.heap Wb8).size Wb8 Wb9 := by rw [← hWb9]; exact on_alloc _ _
              have HV := hide (HV.out.trans (hbb.mono (by have h1 := HB0.out; have h2 := HT.out.sz; omega)))
              have HT := hide (HT.out.below hbb)
              have HA : Hid (Blk Wb9 (World.heap Wb8).size 9 #[.string ⟨P2.toArray⟩]) := hide (by rw [← hWb9]; exact Blk.new _ _ _)
              have HBk := hide (HBk.out.below hbb HBk.out.lt)
              have s0 := HT.out.box.cell 3
              have s1 := HT.out.box.cell 4
              have s2 := (HNM.out _ HV.out).2
              simp only [List.getElem?_toArray, List.getElem?_cons_succ, List.getElem?_cons_zero] at s0 s1
              rw [hWb9]
              refine hK.out _ _ (fun _ _ => ⟨s0, s1, s2⟩) ?_
              clear hK K hbb hWb9 s0 s1 s2
              try clear hHeld
              simp only [List.setIfInBounds_toArray]
              refine wpAnyK_step (i := 8) (by kernel_rfl) rfl rfl (fun K hK => ?_)
              have hr1 : Reads _ (World.heap Wb9).size 1 (some ⟨(World.heap Wb8).size, 0, none⟩) 1 (svs [P2]) := reads_blk HA.out rfl rfl
              refine step_append_any _ rfl (.tmp 61) (.tmp 63) 111 rfl B 9 i0 _ 1 16 Tryz.underlying111 hi hz0 hz1 hz2 rfl (by omega) (.slice A3 m c3) m (svs X3) rfl HT.out.r3 _ (some ⟨(World.heap Wb8).size, 0, none⟩) 1 1 (svs [P2]) rfl hr1 (svs_one _) (by unfold maxLen; omega) (by omega) HT.out.sz ?_
              intro v3 wa10 hown hg hat
              obtain ⟨N3, d3, rfl⟩ := own_slice hown
              rw [← svs_append] at hown
              have HBk := hide (HBk.out.grown hg (own_blk_ne HT.out.r3 HBk.out (by decide)).symm)
              have HV := hide (WR.grow HT.out.r3 HV.out hg HB0.out HT.out.sz)
              have HT := hide (HT.out.app3 hown hg hat)
              have s0 := HT.out.box.cell 3
              have s1 := HT.out.box.cell 4
              have s2 := (HNM.out _ HV.out).2
              simp only [List.getElem?_toArray, List.getElem?_cons_succ, List.getElem?_cons_zero] at s0 s1
              refine hK.out _ _ (fun _ _ => ⟨s0, s1, s2⟩) ?_
              clear hK K hr1 hown hg hat s0 s1 s2 HA
              simp only [List.setIfInBounds_toArray]
              refine wpAnyK_step (i := 19) (by kernel_rfl) rfl rfl (fun K hK => ?_)
              have hr1 : Reads _ (World.heap wa10).size 1 (some ⟨(World.heap wd).size, 0, none⟩) 1 (iv [y.node]) := reads_blk HBk.out rfl rfl
              refine step_append_any _ rfl (.tmp 68) (.tmp 74) 85 rfl B 3 j0 _ 1 8 Tryz.underlying85 hj hj0 hj1 hj2 rfl (by omega) (.slice A4 m c4) m (iv X4) rfl HT.out.r4 _ (some ⟨(World.heap wd).size, 0, none⟩) 1 1 (iv [y.node]) rfl hr1 (iv_one _) (by unfold maxLen; omega) (by omega) HT.out.sz ?_
              intro v4 wa11 hown hg hat
              obtain ⟨N4, d4, rfl⟩ := own_slice hown
              rw [← iv_append] at hown
              have HV := hide (WR.grow HT.out.r4 HV.out hg HB0.out HT.out.sz)
              have HT := hide (HT.out.app4 hown hg hat)
              have s0 := HT.out.box.cell 3
              have s1 := HT.out.box.cell 4
              have s2 := (HNM.out _ HV.out).2
              simp only [List.getElem?_toArray, List.getElem?_cons_succ, List.getElem?_cons_zero] at s0 s1
              refine hK.out _ _ (fun _ _ => ⟨s0, s1, s2⟩) ?_
              clear hK K hr1 hown hg hat s0 s1 s2 HBk
              simp only [List.setIfInBounds_toArray]
              refine wpAnyK_takeF (i := 20) (v := ?_) rfl rfl (by kernel_rfl) (fun _ _ _ h => h) (Or.inl ⟨by rfl, ?_⟩) ?_
              rotate_left
              · (intro V hV; (try dsimp only at hV); go_simp; with_reducible rfl)
              try simp only [Act.put, List.setIfInBounds_toArray, List.set_cons_zero, List.set_cons_succ]
              refine wpAnyK_takeF (i := 21) (v := ?_) rfl rfl (by kernel_rfl) (fun _ _ _ h => h) (Or.inl ⟨by rfl, ?_⟩) ?_
              rotate_left
              · (intro V hV; (try dsimp only at hV); go_simp; with_reducible rfl)
              try simp only [Act.put, List.setIfInBounds_toArray, List.set_cons_zero, List.set_cons_succ]
              obtain ⟨WS1, hWS1⟩ : ∃ W, World.setCell wa11 ⟨gw, 3, none⟩ (.slice N3 (m + 1) d3) = W := ⟨_, rfl⟩
              have T1 := HT.out.sto 3 (.slice N3 (m + 1) d3) (e1 := .slice A1 (m + 1) c1) (e2 := .slice A2 (m + 1) c2) (e3 := .slice N3 (m + 1) d3) (e4 := .slice A4 m c4) rfl
              rw [hWS1] at T1
              obtain ⟨WS2, hWS2⟩ : ∃ W, World.setCell WS1 ⟨gw, 4, none⟩ (.slice N4 (m + 1) d4) = W := ⟨_, rfl⟩
              have T2 := T1.sto 4 (.slice N4 (m + 1) d4) (e1 := .slice A1 (m + 1) c1) (e2 := .slice A2 (m + 1) c2) (e3 := .slice N3 (m + 1) d3) (e4 := .slice N4 (m + 1) d4) rfl
              rw [hWS2] at T2
              have HT2 := hide T2
              have HV2 : Hid (Below B0 V WS2) := hide (by rw [← hWS2, ← hWS1]; exact (HV.out.setCell (p := ⟨gw, 3, none⟩) HG0.out _).setCell (p := ⟨gw, 4, none⟩) HG0.out _)
              have f0 := HT.out.box.cell 3
              have f1 := HT.out.box.frozen 3
              have f2 := HT.out.box.lt
              have f3 := T1.box.cell 4
              have f4 := T1.box.frozen 4
              have f5 := T1.box.lt
              simp only [List.getElem?_toArray, List.getElem?_cons_succ, List.getElem?_cons_zero] at f0 f3
              clear T1 T2
              refine wpAnyK_step (i := 22) (by kernel_rfl) rfl rfl (fun K hK => ?_)
              go_simp
              refine hK.out _ _ (fun _ h => absurd (by simp) h) ?_
              clear hK K f0 f1 f2
              simp only [List.setIfInBounds_toArray]
              refine wpAnyK_takeF (i := 23) (v := ?_) rfl rfl (by kernel_rfl) (fun _ _ _ h => h) (Or.inl ⟨by rfl, ?_⟩) ?_
              rotate_left
              · (intro V hV; (try dsimp only at hV); go_simp; with_reducible rfl)
              try simp only [Act.put, List.setIfInBounds_toArray, List.set_cons_zero, List.set_cons_succ]
              refine wpAnyK_takeF (i := 24) (v := ?_) rfl rfl (by kernel_rfl) (fun _ _ _ h => h) (Or.inl ⟨by rfl, ?_⟩) ?_
              rotate_left
              · (intro V hV; (try dsimp only at hV); go_simp; with_reducible rfl)
              try simp only [Act.put, List.setIfInBounds_toArray, List.set_cons_zero, List.set_cons_succ]
              refine wpAnyK_step (i := 25) (by kernel_rfl) rfl rfl (fun K hK => ?_)
              go_simp
              refine hK.out _ _ (fun _ h => absurd (by simp) h) ?_
              clear hK K f3 f4 f5
              simp only [List.setIfInBounds_toArray]
              refine wpAnyK_done (by kernel_rfl) ?_ _
              (try simp only [Exit.then])
              go_wp2_with fail
              go_meet
              exact ⟨hide ⟨A1, c1, A2, c2, N3, d3, N4, d4, HT2.out⟩, HV2⟩
          case rest =>
            clear HTT HV0
            obtain ⟨HWS6, HV6⟩ := hcut
            have HWN : Hid (WSs B gw F ((s ++ fl (nds l) k us (q : Int) x.r.names i) ++ [(⟨(q : Int), y.name, y.node, us⟩ : ST)]) wc) := hide (by
              refine WSs.snoc HMM.out (a := (q : Int)) (b := y.name) (c := P2) (d := y.node) ?_ rfl rfl ?_ rfl
              · obtain ⟨h1, h2, h3, h4⟩ := HXS.out
                rw [h1, h2, h3, h4]
                exact HWS6.out
              · rw [pathP_pre]
                show preT (us ++ [y.name]) = P2
                rw [pre_snoc, ← HPP.out, HPE.out])
            obtain ⟨A1, c1, A2, c2, A3, c3, A4, c4, hTT⟩ := HWS6.out
            have e0 := hTT.box.cell 0
            have el := hTT.box.lt
            simp only [List.getElem?_toArray, List.getElem?_cons_zero] at e0
            rw [← HFV.out] at e0
            obtain ⟨v, hv⟩ : ∃ v : Nat, y.node = (v : Int) := ⟨y.node.toNat, by omega⟩
            have hvn : v < n := by omega
            obtain ⟨g2, o2, x2, hL2, hg2, hx2, hok2, hc2⟩ := (HFS.out _ HV6.out).at_ hvn
            injection hL2 with hL2
            injection hL2 with q1 q2
            subst q1; subst q2
            have kk := hc2.1
            have i3 := fun W => nd_at g o n c v y.node hv hvn W
            have HDE : Hid (isDir (nds l) y.node = (x2.r.kind == 2)) := hide (by unfold isDir; rw [hv, nds_at hx2])
            have HVN := hide (And.intro hv hvn)
            have n1 := (HNM.out _ HV6.out).2
            have i4 := fun W => nm_at gm om x.mn x.mc i (i : Int) rfl hin W
            clear hTT hx2 hok2 hc2 hv hvn HWS6
            by_cases hk2 : x2.r.kind = 2
            · have hkb : (x2.r.kind == 2) = true := by rw [hk2]; rfl
              have HDI : Hid (isDir (nds l) y.node = true) := hide (by rw [HDE.out]; exact hkb)
              have hB0w : B0 ≤ wc.heap.size := by have h1 := HV6.out.size; have h2 := el; have h3 := HG0.out; omega
              have XR := hide (fun (V' : World) (hV' : Below wc.heap.size wc V') => IH.out v (us ++ [y.name]) P2 ((s ++ fl (nds l) k us (q : Int) x.r.names i) ++ [(⟨(q : Int), y.name, y.node, us⟩ : ST)]) V' (by have := HD.out y (List.mem_of_getElem? HY.out) HDI.out; rwa [HVN.out.1] at this) HVN.out.2 (by rw [pre_snoc, ← HPP.out, HPE.out]) (by rw [← HPE.out, List.length_append, List.length_cons]; rw [Nat.add_mul] at hPl; omega) (by
                have h2 : (wkN (nds l) k us (q : Int) y).length = (wk (nds l) k (us ++ [y.name]) y.node).length + 1 := (by unfold wkN; rw [if_pos HDI.out]; rfl)
                rw [← HVN.out.1, List.length_append, HMM.out, List.length_singleton]
                have h3 := HLENH.out
                have h4 := HML.out
                omega) (HFS.out V' (HV6.out.trans (hV'.mono hB0w))) (WS.below HWN.out hV'))
              rw [← HVN.out.1] at XR
              clear hk2 hB0w
              go_wp2_with fail
              go_quiet (fail)
              go_wp2_with fail
              refine (XR.out _ (bl_drewN (Below.refl _ _))).mono ?_
              rintro e w7 ⟨rfl, hws, hb⟩
              have HWS7 := hide hws
              have HV7 := hide ((show Below B0 V (wc.drewN nq) from bl_drewN HV6.out).trans hb)
              clear hws hb XR e0 el kk n1 i3 i4
              go_wp2_with fail
              go_roundw
              case rel =>
                refine ⟨i + 1, by omega, by go_num, hide ?_, HV7⟩
                rw [fl_succ HY.out, wkN, if_pos HDI.out, ← List.append_assoc, List.append_cons]
                exact HWS7.out
              case measure => simp [intOf]; omega
            · have hkb : (x2.r.kind == 2) = false := beq_eq_false_iff_ne.2 hk2
              have HDI : Hid (isDir (nds l) y.node = false) := hide (by rw [HDE.out]; exact hkb)
              clear hk2
              go_wp2_with fail
              go_quiet (fail)
              go_wp2_with fail
              go_roundw
              case rel =>
                refine ⟨i + 1, by omega, by go_num, hide ?_, hide (bl_drewN HV6.out)⟩
                rw [fl_succ HY.out, wkN, if_neg (by rw [HDI.out]; simp), ← List.append_assoc]
                exact WS.below HWN.out (bl_drewN (Below.refl _ _))
              case measure => simp [intOf]; omega
      · have hlt : ¬ (i : Int) < (x.mn : Int) := by omega
        have HF2 : Hid (fl (nds l) k us (q : Int) x.r.names i = x.r.names.flatMap (wkN (nds l) k us (q : Int))) := hide (by unfold fl; rw [List.take_of_length_le (by have := HOKL.out; omega)])
        go_wp2_with fail
        go_end0
        exact ⟨rfl, by rw [← HF2.out, HFV.out]; exact HW.out, HVV.out⟩
end Go.Proofs.YtlcoapignfmgcaaGreatDoor
