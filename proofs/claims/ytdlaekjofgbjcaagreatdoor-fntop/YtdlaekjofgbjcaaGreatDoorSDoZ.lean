import Derived.Test.YtdlaekjofgbjcaaGreatDoorEvZ
import Derived.Test.YtdlaekjofgbjcaaGreatDoorSCopy
import Derived.Test.YtdlaekjofgbjcaaGreatDoorBaseZ
import Derived.Test.YtdlaekjofgbjcaaGreatDoorIDoZ
import Derived.Test.YtdlaekjofgbjcaaGreatDoorEvS
import Derived.Test.YtdlaekjofgbjcaaGreatDoorText2
import Derived.Deep.CutBlock
import Derived.Deep.DeepCutAuto
/-
 The contract of spec.l2give. Mine, by template (wip/gen.py).
-/
namespace Go.Proofs.YtdlaekjofgbjcaaGreatDoor
open Go.RowKit
theorem gC_state {B : Bk} {i : Nat} (h : (bX B i).state ≠ 1) : giveC B i = 2 := by unfold giveC; rw [if_pos h]
theorem gC_taken {B : Bk} {i : Nat} (h : (bX B i).state = 1) (t : Taken B i) : giveC B i = 3 := by unfold giveC; rw [if_neg (fun q => q h), if_pos t]
theorem gC_locked {B : Bk} {i : Nat} (h : (bX B i).state = 1) (t : ¬ Taken B i) (l : Marked B.locked (bX B i)) : giveC B i = 4 := by unfold giveC; rw [if_neg (fun q => q h), if_neg t, if_pos l]
theorem gC_occ {B : Bk} {i : Nat} (h : (bX B i).state = 1) (t : ¬ Taken B i) (l : ¬ Marked B.locked (bX B i)) (k : (bX B i).kind = 2) (c : Marked B.occ (bX B i)) : giveC B i = 5 := by unfold giveC; rw [if_neg (fun q => q h), if_neg t, if_neg l, if_pos ⟨k, c⟩]
theorem gC_ok {B : Bk} {i : Nat} (h : (bX B i).state = 1) (t : ¬ Taken B i) (l : ¬ Marked B.locked (bX B i)) (k : ¬ ((bX B i).kind = 2 ∧ Marked B.occ (bX B i))) : giveC B i = 0 := by unfold giveC; rw [if_neg (fun q => q h), if_neg t, if_neg l, if_neg k]
set_option maxHeartbeats 8000000 in
theorem l2give_any (v : Value) (B : Bk) (i : Nat) (w : World) (hi : i < B.orders.length) (hR : Right B) (G : BookAt w v B) :
  Calls Tryz.prog 57 #[v, .int .i64 i] w fun e w' => e = .returned (.int .i64 (giveC B i)) ∧ Below w.heap.size w w' := by
 obtain ⟨ao, co, al, cl, ac, cc, rfl, ⟨b, o, hd, g⟩, CL, CC⟩ := G; have g' : ∀ j, j < B.orders.length → ∃ sa sc, OrdAt w b (o + j * 4) (bX B j) sa sc := g; obtain rfl := hd (by omega); obtain ⟨si, ci, q⟩ := g' i hi; have lb : b < w.heap.size := World.block_lt_of_cell? _ _ q.c0; obtain ⟨x0, x1, x2, x3, x4⟩ := q; have hO : B.orders.length ≤ 200 := hR.1.2.2.2; have hi0 : (0 : Int) ≤ (i : Int) := by omega
 have hi1 : (i : Int) < (B.orders.length : Int) := by omega
 have hV : ∀ k, k < (bX B i).secs.length → 0 ≤ sV (bX B i) k ∧ sV (bX B i) k < B.locked.length ∧ sV (bX B i) k < B.occ.length := fun k hk => by
  have h4 := (hR.2.1 i hi).2.2.1.1 k hk; have h5 := hR.1.2.1; have h6 := hR.1.2.2.1; exact ⟨h4.1, by omega, by omega⟩
 have hS : ∀ j, j < B.orders.length → (bX B j).secs.length ≤ 20 := fun j hj => (hR.2.1 j hj).2.2.1.2.2; have HV : Hid ((∀ k, k < (bX B i).secs.length → 0 ≤ sV (bX B i) k ∧ sV (bX B i) k < B.locked.length ∧ sV (bX B i) k < B.occ.length) ∧ (∀ j, j < B.orders.length → (bX B j).secs.length ≤ 20) ∧ Cells w si (bX B i).secs.length (iV (bX B i).secs) ∧ Cells w al B.locked.length (bV B.locked) ∧ Cells w ac B.occ.length (bV B.occ)) := ⟨hV, hS, x4, CL, CC⟩; clear g hd hV hS x4 CL CC hR; have B2 : Below w.heap.size w ((w.alloc (.cells #[.int .i64 B.n, .slice (some ⟨b, o, none⟩) B.orders.length co, .slice al B.locked.length cl, .slice ac B.occ.length cc] 37)).alloc (.cells #[.string (bX B i).holder, .int .i64 (bX B i).kind, .slice si (bX B i).secs.length ci, .int .i64 (bX B i).state] 41)) := below2 _ _ _
 have HF : Hid (∀ W', Below (w.heap.size + 2) ((w.alloc (.cells #[.int .i64 B.n, .slice (some ⟨b, o, none⟩) B.orders.length co, .slice al B.locked.length cl, .slice ac B.occ.length cc] 37)).alloc (.cells #[.string (bX B i).holder, .int .i64 (bX B i).kind, .slice si (bX B i).secs.length ci, .int .i64 (bX B i).state] 41)) W' → W'.heap[w.heap.size]? = some (.cells #[.int .i64 B.n, .slice (some ⟨b, o, none⟩) B.orders.length co, .slice al B.locked.length cl, .slice ac B.occ.length cc] 37 (0, 0)) ∧ W'.heap[w.heap.size + 1]? = some (.cells #[.string (bX B i).holder, .int .i64 (bX B i).kind, .slice si (bX B i).secs.length ci, .int .i64 (bX B i).state] 41 (0, 0)) ∧ Below w.heap.size w W') := by
  intro W' h; refine ⟨(h.block _ (by omega)).trans ((Deep.blk_alloc_lt _ _ _ (by simp)).trans (Deep.blk_alloc_new _ _)), (h.block _ (by omega)).trans ?_, B2.trans (h.mono (by omega))⟩; have := Deep.blk_alloc_new (w.alloc (.cells #[.int .i64 B.n, .slice (some ⟨b, o, none⟩) B.orders.length co, .slice al B.locked.length cl, .slice ac B.occ.length cc] 37)) (.cells #[.string (bX B i).holder, .int .i64 (bX B i).kind, .slice si (bX B i).secs.length ci, .int .i64 (bX B i).state] 41)
  simpa using this
 have sz2 : ((w.alloc (.cells #[.int .i64 B.n, .slice (some ⟨b, o, none⟩) B.orders.length co, .slice al B.locked.length cl, .slice ac B.occ.length cc] 37)).alloc (.cells #[.string (bX B i).holder, .int .i64 (bX B i).kind, .slice si (bX B i).secs.length ci, .int .i64 (bX B i).state] 41)).heap.size = w.heap.size + 2 := by simp
 by_cases s1 : (bX B i).state = 1
 case neg =>
  have t1 : ((bX B i).state != 1) = true := by simpa using s1
  have HS : Hid ((bX B i).state ≠ 1) := s1; clear s1 g'
  go_enter Tryz.func57, Tryz.ntmps57
  go_wp2; go_ret; exact ⟨by rw [gC_state HS.out]; rfl, B2⟩
 have t1 : ((bX B i).state != 1) = false := by simp [s1]
 have HS : Hid ((bX B i).state = 1) := s1; clear s1
 go_enter Tryz.func57, Tryz.ntmps57
 go_wp2; clear x0 x1 x2 x3; obtain ⟨O, hOO⟩ : ∃ O, O = B.orders.length := ⟨_, rfl⟩; have HO : Hid (O = B.orders.length) := hOO; rw [← hOO] at hO g' hi1 ⊢; clear hOO
 go_loopw [23] (fun q wr => ∃ k : Nat, k ≤ O ∧ q = .int .i64 k ∧ (∀ j, j < k → ¬ (OpenP (bX B j).state ∧ Meet (bX B j).secs.length (bX B i).secs.length (sV (bX B j)) (sV (bX B i)))) ∧ Below (w.heap.size + 2) ((w.alloc (.cells #[.int .i64 B.n, .slice (some ⟨b, o, none⟩) B.orders.length co, .slice al B.locked.length cl, .slice ac B.occ.length cc] 37)).alloc (.cells #[.string (bX B i).holder, .int .i64 (bX B i).kind, .slice si (bX B i).secs.length ci, .int .i64 (bX B i).state] 41)) wr) (fun q _ => O - (intOf q).toNat)
 case atStart => exact ⟨0, Nat.zero_le _, rfl, fun j hj => absurd hj (by omega), by rw [HO.out]; exact Below.refl _ _⟩
 case round =>
  obtain ⟨k, hk, rfl, hall, hb⟩ := hrel; have HA : Hid ((∀ j, j < k → ¬ (OpenP (bX B j).state ∧ Meet (bX B j).secs.length (bX B i).secs.length (sV (bX B j)) (sV (bX B i)))) ∧ Below (w.heap.size + 2) ((w.alloc (.cells #[.int .i64 B.n, .slice (some ⟨b, o, none⟩) B.orders.length co, .slice al B.locked.length cl, .slice ac B.occ.length cc] 37)).alloc (.cells #[.string (bX B i).holder, .int .i64 (bX B i).kind, .slice si (bX B i).secs.length ci, .int .i64 (bX B i).state] 41)) wr) := ⟨hall, hb⟩; obtain ⟨y0, y1, bw⟩ := HF.out wr hb; have zr : w.heap.size + 2 ≤ wr.heap.size := by have := hb.size; omega
  clear hall hb
  by_cases hlt : k < O
  ·
   obtain ⟨sk, ck, q⟩ := g' k hlt; obtain ⟨x0, x1, x2, x3, x4⟩ := q.below bw; have HX : Hid (Cells wr sk (bX B k).secs.length (iV (bX B k).secs) ∧ Cells wr si (bX B i).secs.length (iV (bX B i).secs)) := ⟨x4, HV.out.2.2.1.below bw⟩; have hsk : (bX B k).secs.length ≤ 20 ∧ (bX B i).secs.length ≤ 20 := ⟨HV.out.2.1 k (by rw [← HO.out]; exact hlt), HV.out.2.1 i hi⟩; have y1' := (Deep.blk_alloc_lt wr (.cells #[.string (bX B k).holder, .int .i64 (bX B k).kind, .slice sk (bX B k).secs.length ck, .int .i64 (bX B k).state] 41) _ (Array.getElem?_eq_some_iff.1 y1).1).trans y1; clear q x4
   go_wp2_with fail
   refine (l1open_any _ _ _ (bX B k).state _).mono ?_; rintro e w2 ⟨hr, hb2⟩; have szr : (wr.alloc (.cells #[.string (bX B k).holder, .int .i64 (bX B k).kind, .slice sk (bX B k).secs.length ck, .int .i64 (bX B k).state] 41)).heap.size = wr.heap.size + 1 := by simp
   have st : Below wr.heap.size wr w2 := (below1 _ _).trans (hb2.mono (by omega)); have z2 : w2.heap[wr.heap.size]? = some (.cells #[.string (bX B k).holder, .int .i64 (bX B k).kind, .slice sk (bX B k).secs.length ck, .int .i64 (bX B k).state] 41 (0, 0)) := (hb2.block _ (by omega)).trans (Deep.blk_alloc_new _ _); have z3 : w2.heap[w.heap.size + 1]? = some (.cells #[.string (bX B i).holder, .int .i64 (bX B i).kind, .slice si (bX B i).secs.length ci, .int .i64 (bX B i).state] 41 (0, 0)) := (st.block _ (by omega)).trans y1; have HB2 : Hid (Below (w.heap.size + 2) ((w.alloc (.cells #[.int .i64 B.n, .slice (some ⟨b, o, none⟩) B.orders.length co, .slice al B.locked.length cl, .slice ac B.occ.length cc] 37)).alloc (.cells #[.string (bX B i).holder, .int .i64 (bX B i).kind, .slice si (bX B i).secs.length ci, .int .i64 (bX B i).state] 41)) w2) := HA.out.2.trans (st.mono zr); obtain ⟨n0, n1, n2, n3⟩ := box_cells z2; obtain ⟨p0, p1, p2, p3⟩ := box_cells z3; have HC : Hid (Cells w2 sk (bX B k).secs.length (iV (bX B k).secs) ∧ Cells w2 si (bX B i).secs.length (iV (bX B i).secs)) := ⟨HX.out.1.below st, HX.out.2.below st⟩; clear hb2 st szr z2 z3 y0 y1 y1' bw x0 x1 x2 x3 HX g'; rcases hr.cases with ⟨rfl, hp⟩ | ⟨rfl, hp⟩
   ·
    have HP : Hid (OpenP (bX B k).state) := hp; clear hp hr
    go_wp2_with fail
    refine (l1meet_any sk si ck ci (bX B k).secs.length (bX B i).secs.length (sV (bX B k)) (sV (bX B i)) _ (by omega) (by omega) HC.out.1 HC.out.2).mono ?_; rintro e w' ⟨hr, rfl⟩; rcases hr.cases with ⟨rfl, hp⟩ | ⟨rfl, hp⟩
    ·
     have HM : Hid (Taken B i) := ⟨k, by rw [← HO.out]; exact hlt, HP.out, hp⟩; clear hp hr; go_wp2; go_ret; exact ⟨by rw [gC_taken HS.out HM.out]; rfl, (HF.out _ HB2.out).2.2⟩
    ·
     have HM : Hid (¬ Meet (bX B k).secs.length (bX B i).secs.length (sV (bX B k)) (sV (bX B i))) := hp; clear hp hr; go_wp2; go_roundw
     case rel =>
      refine ⟨k + 1, by omega, by go_num, fun j hj => ?_, HB2.out⟩
      by_cases e : j = k
      · subst e; exact fun q => HM.out q.2
      · exact HA.out.1 j (by omega)
     case measure => simp [intOf]; omega
   ·
    have HP : Hid (¬ OpenP (bX B k).state) := hp; clear hp hr; go_wp2; go_roundw
    case rel =>
     refine ⟨k + 1, by omega, by go_num, fun j hj => ?_, HB2.out⟩
     by_cases e : j = k
     · subst e; exact fun q => HP.out q.1
     · exact HA.out.1 j (by omega)
    case measure => simp [intOf]; omega
  ·
   obtain rfl : k = O := by omega
   have HT : Hid (¬ Taken B i) := fun ⟨j, hj, ho, hm⟩ => HA.out.1 j (by rw [HO.out]; exact hj) ⟨ho, hm⟩; have HL : Hid (Cells wr si (bX B i).secs.length (iV (bX B i).secs) ∧ Cells wr al B.locked.length (bV B.locked) ∧ Cells wr ac B.occ.length (bV B.occ) ∧ Below w.heap.size w wr) := ⟨HV.out.2.2.1.below bw, HV.out.2.2.2.1.below bw, HV.out.2.2.2.2.below bw, bw⟩; obtain ⟨n0, n1, n2, n3⟩ := box_cells y0; obtain ⟨p0, p1, p2, p3⟩ := box_cells y1; clear g' y0 y1 bw; obtain ⟨n, hn⟩ : ∃ n, n = (bX B i).secs.length := ⟨_, rfl⟩; have HN : Hid (n = (bX B i).secs.length) := hn; have hn20 : n ≤ 20 := by rw [hn]; exact HV.out.2.1 i hi
   rw [← hn] at p2; clear hn; obtain ⟨bs, os, hds, gs⟩ := HL.out.1; obtain ⟨bL, oL, hdL, gL⟩ := HL.out.2.1; obtain ⟨bC, oC, hdC, gC⟩ := HL.out.2.2.1; rw [← HN.out] at hds gs
   have gs' : ∀ k, k < n → ∃ m : Nat, wr.cell? ⟨bs, os + k, none⟩ = some (.int .i64 (m : Int)) ∧ sV (bX B i) k = (m : Int) ∧ m < B.locked.length ∧ m < B.occ.length := fun k hk => by
    have h1 := HV.out.1 k (by rw [← HN.out]; exact hk); obtain ⟨m, hm⟩ : ∃ m : Nat, sV (bX B i) k = (m : Int) := ⟨(sV (bX B i) k).toNat, by omega⟩; exact ⟨m, by rw [← hm]; exact gs k hk, hm, by omega, by omega⟩
   have HGs : Hid (∀ k, k < n → ∃ m : Nat, wr.cell? ⟨bs, os + k, none⟩ = some (.int .i64 (m : Int)) ∧ sV (bX B i) k = (m : Int) ∧ m < B.locked.length ∧ m < B.occ.length) := gs'; have HGL : Hid ((∀ i, i < B.locked.length → wr.cell? ⟨bL, oL + i, none⟩ = some (bV B.locked i)) ∧ (∀ i, i < B.occ.length → wr.cell? ⟨bC, oC + i, none⟩ = some (bV B.occ i))) := ⟨gL, gC⟩; clear gs gs' gL gC; go_wp2
   go_loop [40] (fun q => ∃ k : Nat, k ≤ n ∧ q = .int .i64 k ∧ ¬ MarkedTo B.locked (bX B i) k) (fun q => n - (intOf q).toNat)
   case atStart => exact ⟨0, Nat.zero_le _, rfl, fun ⟨q, h, _⟩ => absurd h (by omega)⟩
   case round =>
    obtain ⟨k2, hk2, rfl, hall⟩ := hrel; have HK : Hid (¬ MarkedTo B.locked (bX B i) k2) := hall; clear hall
    by_cases hlt2 : k2 < n
    ·
     have hsi := hds (by omega); rw [hsi] at p2 ⊢; obtain ⟨m, e1, hm, mL, mC⟩ := HGs.out k2 hlt2; have hal := hdL (by omega); rw [hal] at n2; have HM : Hid (sV (bX B i) k2 = (m : Int)) := hm; have m0 : (0 : Int) ≤ (m : Int) := by omega
     have m1 : (m : Int) < (B.locked.length : Int) := by omega
     clear hds hdL hdC hm hsi hal; cases hb : B.locked.getD m false with
     | true =>
      have e2 : wr.cell? ⟨bL, oL + m, none⟩ = some (.bool true) := by rw [← hb]; exact HGL.out.1 m mL
      have HMk : Hid (Marked B.locked (bX B i)) := ⟨k2, by rw [← HN.out]; exact hlt2, by rw [HM.out]; exact hb⟩; clear hb; go_wp2; go_ret; exact ⟨by rw [gC_locked HS.out HT.out HMk.out]; rfl, HL.out.2.2.2⟩
     | false =>
      have e2 : wr.cell? ⟨bL, oL + m, none⟩ = some (.bool false) := by rw [← hb]; exact HGL.out.1 m mL
      have HMk : Hid (¬ MarkedTo B.locked (bX B i) (k2 + 1)) := fun ⟨q, h1, h2⟩ => by
       by_cases c : q = k2
       ·
        subst c; rw [HM.out] at h2; have h3 : B.locked.getD m false = true := h2; rw [hb] at h3; cases h3
       · exact HK.out ⟨q, by omega, h2⟩
      clear hb; go_wp2
      go_round
      case rel => exact ⟨k2 + 1, by omega, by go_num, HMk.out⟩
      case measure => simp [intOf]; omega
    ·
     obtain rfl : k2 = n := by omega
     have HML : Hid (¬ Marked B.locked (bX B i)) := by have := HK.out; rw [HN.out] at this; exact this
     clear hdL
     by_cases hkd : (bX B i).kind = 2
     ·
      have t2 : ((bX B i).kind == 2) = true := by simpa using hkd
      have HKd : Hid ((bX B i).kind = 2) := hkd; clear hkd; go_wp2
      go_loop [53] (fun q => ∃ k : Nat, k ≤ k2 ∧ q = .int .i64 k ∧ ¬ MarkedTo B.occ (bX B i) k) (fun q => k2 - (intOf q).toNat)
      case atStart => exact ⟨0, Nat.zero_le _, rfl, fun ⟨q, h, _⟩ => absurd h (by omega)⟩
      case round =>
       obtain ⟨k3, hk3, rfl, hall⟩ := hrel; have HK3 : Hid (¬ MarkedTo B.occ (bX B i) k3) := hall; clear hall
       by_cases hlt3 : k3 < k2
       ·
        have hsi := hds (by omega); rw [hsi] at p2 ⊢; obtain ⟨m, e1, hm, mL, mC⟩ := HGs.out k3 hlt3; have hac := hdC (by omega); rw [hac] at n3; have HM : Hid (sV (bX B i) k3 = (m : Int)) := hm; have m0 : (0 : Int) ≤ (m : Int) := by omega
        have m1 : (m : Int) < (B.occ.length : Int) := by omega
        clear hds hdC hm hsi hac; cases hb : B.occ.getD m false with
        | true =>
         have e2 : wr.cell? ⟨bC, oC + m, none⟩ = some (.bool true) := by rw [← hb]; exact HGL.out.2 m mC
         have HMk : Hid (Marked B.occ (bX B i)) := ⟨k3, by rw [← HN.out]; exact hlt3, by rw [HM.out]; exact hb⟩; clear hb; go_wp2; go_ret; exact ⟨by rw [gC_occ HS.out HT.out HML.out HKd.out HMk.out]; rfl, HL.out.2.2.2⟩
        | false =>
         have e2 : wr.cell? ⟨bC, oC + m, none⟩ = some (.bool false) := by rw [← hb]; exact HGL.out.2 m mC
         have HMk : Hid (¬ MarkedTo B.occ (bX B i) (k3 + 1)) := fun ⟨q, h1, h2⟩ => by
          by_cases c : q = k3
          ·
           subst c; rw [HM.out] at h2; have h3 : B.occ.getD m false = true := h2; rw [hb] at h3; cases h3
          · exact HK3.out ⟨q, by omega, h2⟩
         clear hb; go_wp2
         go_round
         case rel => exact ⟨k3 + 1, by omega, by go_num, HMk.out⟩
         case measure => simp [intOf]; omega
       ·
        obtain rfl : k3 = k2 := by omega
        have HMC : Hid (¬ Marked B.occ (bX B i)) := by have := HK3.out; rw [HN.out] at this; exact this
        clear hds hdC; go_wp2; go_ret; exact ⟨by rw [gC_ok HS.out HT.out HML.out (fun q => HMC.out q.2)]; rfl, HL.out.2.2.2⟩
     ·
      have t2 : ((bX B i).kind == 2) = false := by simpa using hkd
      have HKd : Hid (¬ (bX B i).kind = 2) := hkd; clear hkd; go_wp2
      go_loop [53] (fun q => ∃ k : Nat, k ≤ k2 ∧ q = .int .i64 k) (fun q => k2 - (intOf q).toNat)
      case atStart => exact ⟨0, Nat.zero_le _, rfl⟩
      case round =>
       obtain ⟨k3, hk3, rfl⟩ := hrel
       by_cases hlt3 : k3 < k2
       ·
        have hsi := hds (by omega); rw [hsi] at p2 ⊢; obtain ⟨m, e1, hm, mL, mC⟩ := HGs.out k3 hlt3; have hac := hdC (by omega); rw [hac] at n3; have m0 : (0 : Int) ≤ (m : Int) := by omega
        have m1 : (m : Int) < (B.occ.length : Int) := by omega
        clear hds hdC hm hsi hac; cases hb : B.occ.getD m false with
        | true =>
         have e2 : wr.cell? ⟨bC, oC + m, none⟩ = some (.bool true) := by rw [← hb]; exact HGL.out.2 m mC
         clear hb; go_wp2
         go_round
         case rel => exact ⟨k3 + 1, by omega, by go_num⟩
         case measure => simp [intOf]; omega
        | false =>
         have e2 : wr.cell? ⟨bC, oC + m, none⟩ = some (.bool false) := by rw [← hb]; exact HGL.out.2 m mC
         clear hb; go_wp2
         go_round
         case rel => exact ⟨k3 + 1, by omega, by go_num⟩
         case measure => simp [intOf]; omega
       ·
        obtain rfl : k3 = k2 := by omega
        clear hds hdC; go_wp2; go_ret; exact ⟨by rw [gC_ok HS.out HT.out HML.out (fun q => HKd.out q.1)]; rfl, HL.out.2.2.2⟩
end Go.Proofs.YtdlaekjofgbjcaaGreatDoor
/-
 The contract of spec.Do. Mine, by program (wip/sdo2.py), by template (wip/gen.py).
-/
namespace Go.Proofs.YtdlaekjofgbjcaaGreatDoor
open Go.RowKit
theorem wp_append_cells {P : Program} {w : World} {o : Oper} {a : Act} {K : Act → World → Prop} {Q : Exit → Act → World → Prop} (s x : Operand) (t : TypeId)
  (ho : o.op = .call { callee := .builtin .append, args := #[s, x], argTypes := #[t, t] })
  (base : Nat) (e : TypeId) (i : TypeInfo) (z : Value) (bytes : Nat) (ht : P.underlying t = some (.slice e)) (hi : P.info? e = some i) (hz : i.zero = some z)
  (hsize : i.size = 1) (hby : i.bytes = bytes) (hzs : z.cells.size = 1) (v : Value) (n : Nat) (xs : List Value) (hs : a.eval s = v) (hown : w.ownsRow base e 1 v n xs)
  (ad : Option Addr) (m c : Nat) (V : Nat → Value) (hx : a.eval x = .slice ad m c) (Kc : Cells w ad m V) (h1 : ∀ j, (V j).oneCell' = true) (h63 : n + m ≤ maxLen) (hbytes : (n + m) * bytes ≤ 140737488355328) (hbase : base ≤ w.heap.size)
  (h : ∀ v' w', w'.ownsRow base e 1 v' (n + m) (xs ++ (List.range m).map V) → w.grownBy w' v.ownBlock → (v' = .slice none 0 0 ↔ v = .slice none 0 0 ∧ m = 0) → (v'.ownBlock = v.ownBlock ∨ v'.ownBlock = some w.heap.size) → K (a.put o.dst v') w') : o.wp P a w K Q := by
 obtain ⟨v', w', hr, h2, h3, h4, h5⟩ := run_append_cells (P := P) w base t o.type e i z bytes ht hi hz hsize hby hzs v n xs hown ad m c V Kc h1 h63 hbytes hbase; unfold Oper.wp execOp; simp only [ho, resolve, invoke, builtin, Sem.run_bind, Sem.run_pure, Result.andThen_ok, List.map_toArray, List.map_cons, List.map_nil, hs, hx, hr]; exact h v' w' h2 h3 h4 h5
def MeetD (w wc : World) (lo p : Nat) (r : Bk) : Prop :=
 ∃ a b c d K', wc.heap[p]? = some (.cells #[a, b, c, d] 37 (0, 0)) ∧ OwnBook wc lo (.agg #[a, b, c, d]) r K' ∧ wc.heap[w.heap.size + 1 + 1]? = some (.cells #[.int .i64 0, .int .i64 0, .slice none 0 0, .slice none 0 0, .slice none 0 0] 39 (0, 0)) ∧ Below w.heap.size w wc
structure SPre (w W : World) (lo p : Nat) (B : Bk) (E : Ev) (ao : Option Addr) (co : Nat) (al : Option Addr) (cl : Nat) (ac : Option Addr) (cc : Nat) (ad : Option Addr) (ca : Nat) (ao2 : Option Addr) (co2 : Nat) (al2 : Option Addr) (cl2 : Nat) (ac2 : Option Addr) (cc2 : Nat) (K : Blk) : Prop where
 b0 : W.heap[w.heap.size]? = some (.cells #[.int .i64 B.n, .slice ao B.orders.length co, .slice al B.locked.length cl, .slice ac B.occ.length cc] 37 (0, 0))
 b1 : W.heap[w.heap.size + 1]? = some (.cells #[.int .i64 E.op, .int .i64 E.of_, .string E.holder, .int .i64 E.kind, .slice ad E.secs.length ca, .string E.text] 32 (0, 0))
 b2 : W.heap[w.heap.size + 1 + 1]? = some (.cells #[.int .i64 0, .int .i64 0, .slice none 0 0, .slice none 0 0, .slice none 0 0] 39 (0, 0))
 bp : W.heap[p]? = some (.cells #[.int .i64 B.n, .slice ao2 B.orders.length co2, .slice al2 B.locked.length cl2, .slice ac2 B.occ.length cc2] 37 (0, 0))
 rb : RowBook W lo (.agg #[.int .i64 B.n, .slice ao2 B.orders.length co2, .slice al2 B.locked.length cl2, .slice ac2 B.occ.length cc2]) B K
 bw : Below w.heap.size w W
 z1 : w.heap.size + 3 ≤ lo
 z2 : lo ≤ p
 np : ∀ b, bookBlocks B K b → b ≠ p
 gb : BookAt W (.agg #[.int .i64 B.n, .slice ao B.orders.length co, .slice al B.locked.length cl, .slice ac B.occ.length cc]) B
 ge : Cells W ad E.secs.length (iV E.secs)
theorem SPre.below {w W W' : World} {lo p : Nat} {B : Bk} {E : Ev} {ao : Option Addr} {co : Nat} {al : Option Addr} {cl : Nat} {ac : Option Addr} {cc : Nat} {ad : Option Addr} {ca : Nat} {ao2 : Option Addr} {co2 : Nat} {al2 : Option Addr} {cl2 : Nat} {ac2 : Option Addr} {cc2 : Nat} {K : Blk} (h : SPre w W lo p B E ao co al cl ac cc ad ca ao2 co2 al2 cl2 ac2 cc2 K) (hb : Below W.heap.size W W') : SPre w W' lo p B E ao co al cl ac cc ad ca ao2 co2 al2 cl2 ac2 cc2 K :=
 ⟨(hb.block _ (Array.getElem?_eq_some_iff.1 h.b0).1).trans h.b0, (hb.block _ (Array.getElem?_eq_some_iff.1 h.b1).1).trans h.b1, (hb.block _ (Array.getElem?_eq_some_iff.1 h.b2).1).trans h.b2, (hb.block _ (Array.getElem?_eq_some_iff.1 h.bp).1).trans h.bp, h.rb.below hb, below_trans h.bw h.bw.size hb, h.z1, h.z2, h.np, h.gb.below hb, h.ge.below hb⟩
theorem SPre.same {w W : World} {lo p : Nat} {B : Bk} {E : Ev} {ao : Option Addr} {co : Nat} {al : Option Addr} {cl : Nat} {ac : Option Addr} {cc : Nat} {ad : Option Addr} {ca : Nat} {ao2 : Option Addr} {co2 : Nat} {al2 : Option Addr} {cl2 : Nat} {ac2 : Option Addr} {cc2 : Nat} {K : Blk} (h : SPre w W lo p B E ao co al cl ac cc ad ca ao2 co2 al2 cl2 ac2 cc2 K) : MeetD w W lo p B :=
 ⟨_, _, _, _, K, h.bp, h.rb.own, h.b2, h.bw⟩
theorem SPre.turned {w W W' : World} {lo p : Nat} {B B' : Bk} {E : Ev} {ao : Option Addr} {co : Nat} {al : Option Addr} {cl : Nat} {ac : Option Addr} {cc : Nat} {ad : Option Addr} {ca : Nat} {ao2 : Option Addr} {co2 : Nat} {al2 : Option Addr} {cl2 : Nat} {ac2 : Option Addr} {cc2 : Nat} {K : Blk} (h : SPre w W lo p B E ao co al cl ac cc ad ca ao2 co2 al2 cl2 ac2 cc2 K) (h2 : OwnBook W' lo (.agg #[.int .i64 B.n, .slice ao2 B.orders.length co2, .slice al2 B.locked.length cl2, .slice ac2 B.occ.length cc2]) B' K) (hf : Fr (bookBlocks B K) W W') : MeetD w W' lo p B' :=
 ⟨_, _, _, _, K, (hf.block _ (Array.getElem?_eq_some_iff.1 h.bp).1 (fun q => h.np _ q rfl)).trans h.bp, h2, (hf.block _ (Array.getElem?_eq_some_iff.1 h.b2).1 (fun q => by have := h.rb.own.blocks_low q; have := h.z1; omega)).trans h.b2, h.bw.trans (hf.below h.bw.size (fun i hi => by have := h.rb.own.blocks_low hi; have := h.z1; omega))⟩
set_option maxRecDepth 4000 in
set_option maxHeartbeats 20000000 in
theorem specDo_any (v ve : Value) (B : Bk) (E : Ev) (w : World) (hsm : B.orders.length ≤ 1048576 ∧ ∀ i, i < B.orders.length → (bX B i).secs.length ≤ 1048576 ∧ (bX B i).holder.size ≤ 1048576) (hw : -9223372036854775808 ≤ B.n ∧ B.n ≤ 9223372036854775807)
  (he1 : E.holder.size ≤ 1048576) (he2 : E.text.size ≤ 1048576) (he3 : E.secs.length ≤ 1048576) (G : BookAt w v B) (GE : EvAt w ve E) :
  Calls Tryz.prog 22 #[v, ve] w fun e w' => RetDo e w w' B E := by
 have G0 := G; have GE0 := GE; obtain ⟨ao, co, al, cl, ac, cc, rfl, -⟩ := G; obtain ⟨ad, ca, rfl, GC⟩ := GE; have HG : Hid (BookAt w (.agg #[.int .i64 B.n, .slice ao B.orders.length co, .slice al B.locked.length cl, .slice ac B.occ.length cc]) B ∧ EvAt w (.agg #[.int .i64 E.op, .int .i64 E.of_, .string E.holder, .int .i64 E.kind, .slice ad E.secs.length ca, .string E.text]) E ∧ Cells w ad E.secs.length (iV E.secs)) := ⟨G0, GE0, GC⟩; clear G0 GE0 GC; have B3 : Below w.heap.size w (((w.alloc (.cells #[.int .i64 B.n, .slice ao B.orders.length co, .slice al B.locked.length cl, .slice ac B.occ.length cc] 37)).alloc (.cells #[.int .i64 E.op, .int .i64 E.of_, .string E.holder, .int .i64 E.kind, .slice ad E.secs.length ca, .string E.text] 32)).alloc (.cells #[.int .i64 0, .int .i64 0, .slice none 0 0, .slice none 0 0, .slice none 0 0] 39)) := below3 _ _ _ _; have sz3 : (((w.alloc (.cells #[.int .i64 B.n, .slice ao B.orders.length co, .slice al B.locked.length cl, .slice ac B.occ.length cc] 37)).alloc (.cells #[.int .i64 E.op, .int .i64 E.of_, .string E.holder, .int .i64 E.kind, .slice ad E.secs.length ca, .string E.text] 32)).alloc (.cells #[.int .i64 0, .int .i64 0, .slice none 0 0, .slice none 0 0, .slice none 0 0] 39)).heap.size = w.heap.size + 3 := by simp
 go_enter Tryz.func22, Tryz.ntmps22
 go_wp2_with fail
 refine (specEventOk_any _ _ B E _ hsm.1 hsm.2 hw (by omega) (by omega) (by omega) (HG.out.1.below B3) (HG.out.2.1.below B3)).mono ?_; rintro e w1 ⟨hr, hb⟩; have x0 : w1.heap[w.heap.size]? = some (.cells #[.int .i64 B.n, .slice ao B.orders.length co, .slice al B.locked.length cl, .slice ac B.occ.length cc] 37 (0, 0)) := (hb.block _ (by omega)).trans (by rw [Deep.blk_alloc_lt _ _ _ (by simp; omega), Deep.blk_alloc_lt _ _ _ (by simp)]; exact Deep.blk_alloc_new _ _)
 have x1 : w1.heap[w.heap.size + 1]? = some (.cells #[.int .i64 E.op, .int .i64 E.of_, .string E.holder, .int .i64 E.kind, .slice ad E.secs.length ca, .string E.text] 32 (0, 0)) := (hb.block _ (by omega)).trans (by
  rw [Deep.blk_alloc_lt _ _ _ (by simp)]; have := Deep.blk_alloc_new (w.alloc (.cells #[.int .i64 B.n, .slice ao B.orders.length co, .slice al B.locked.length cl, .slice ac B.occ.length cc] 37)) (.cells #[.int .i64 E.op, .int .i64 E.of_, .string E.holder, .int .i64 E.kind, .slice ad E.secs.length ca, .string E.text] 32)
  simpa using this)
 have x2 : w1.heap[w.heap.size + 1 + 1]? = some (.cells #[.int .i64 0, .int .i64 0, .slice none 0 0, .slice none 0 0, .slice none 0 0] 39 (0, 0)) := (hb.block _ (by omega)).trans (by
  have := Deep.blk_alloc_new ((w.alloc (.cells #[.int .i64 B.n, .slice ao B.orders.length co, .slice al B.locked.length cl, .slice ac B.occ.length cc] 37)).alloc (.cells #[.int .i64 E.op, .int .i64 E.of_, .string E.holder, .int .i64 E.kind, .slice ad E.secs.length ca, .string E.text] 32)) (.cells #[.int .i64 0, .int .i64 0, .slice none 0 0, .slice none 0 0, .slice none 0 0] 39)
  simpa using this)
 have bw : Below w.heap.size w w1 := B3.trans (hb.mono B3.size); have z1 : w.heap.size + 3 ≤ w1.heap.size := by have := hb.size; omega
 have HX : Hid (w1.heap[w.heap.size]? = some (.cells #[.int .i64 B.n, .slice ao B.orders.length co, .slice al B.locked.length cl, .slice ac B.occ.length cc] 37 (0, 0)) ∧ w1.heap[w.heap.size + 1]? = some (.cells #[.int .i64 E.op, .int .i64 E.of_, .string E.holder, .int .i64 E.kind, .slice ad E.secs.length ca, .string E.text] 32 (0, 0)) ∧ w1.heap[w.heap.size + 1 + 1]? = some (.cells #[.int .i64 0, .int .i64 0, .slice none 0 0, .slice none 0 0, .slice none 0 0] 39 (0, 0)) ∧ Below w.heap.size w w1) := ⟨x0, x1, x2, bw⟩; obtain ⟨m0, m1, m2, m3⟩ := box_cells x0; obtain ⟨q0, q1, q2, q3, q4⟩ : w1.cell? ⟨w.heap.size + 1 + 1, 0, none⟩ = some (.int .i64 0) ∧ w1.cell? ⟨w.heap.size + 1 + 1, 1, none⟩ = some (.int .i64 0) ∧ w1.cell? ⟨w.heap.size + 1 + 1, 2, none⟩ = some (.slice none 0 0) ∧ w1.cell? ⟨w.heap.size + 1 + 1, 3, none⟩ = some (.slice none 0 0) ∧ w1.cell? ⟨w.heap.size + 1 + 1, 4, none⟩ = some (.slice none 0 0) := ⟨cell_of_box x2 rfl, cell_of_box x2 rfl, cell_of_box x2 rfl, cell_of_box x2 rfl, cell_of_box x2 rfl⟩; have f0 : w1.frozen? ⟨w.heap.size + 1 + 1, 0, none⟩ = false := frozen_of_box x2; have f1 : w1.frozen? ⟨w.heap.size + 1 + 1, 1, none⟩ = false := frozen_of_box x2; have f2 : w1.frozen? ⟨w.heap.size + 1 + 1, 2, none⟩ = false := frozen_of_box x2; have f3 : w1.frozen? ⟨w.heap.size + 1 + 1, 3, none⟩ = false := frozen_of_box x2; have f4 : w1.frozen? ⟨w.heap.size + 1 + 1, 4, none⟩ = false := frozen_of_box x2; clear hb B3 sz3 x0 x1 x2 bw; rcases hr.cases with ⟨rfl, hok⟩ | ⟨rfl, hok⟩
 case inr =>
  have HK : Hid (¬ EvOk B E) := hok; clear hok hr m0 m1 m2 m3; go_wp2; refine bodyPost_ret (v := .agg #[.int .i64 1, .int .i64 0, .slice none 0 0, .slice none 0 0, .slice none 0 0]) (by simp [results, Tryz.results22, go_sem, q0, q1, q2, q3, q4]) rfl ⟨_, _, _, _, ⟨0, fun _ => 0, fun _ => none, fun _ => 0, 0, 0⟩, by rw [doP_none HK.out], by rw [doP_none HK.out]; exact ownBook_zero _ _, ?_⟩; have t4 := HX.out.2.2.2
  repeat (refine below_set ?_ _ _ (by omega) _)
  exact t4
 have HK : Hid (EvOk B E) := hok; clear hok hr f0 f1 f2 f3 f4 q0 q1 q2 q3 q4
 go_wp2_with fail
 refine (l2copy_any _ B _ hsm.1 (fun i hi => (hsm.2 i hi).1) (by have := HK.out.1.1.1.2; have := HK.out.1.1.2.1; omega) (by have := HK.out.1.1.1.2; have := HK.out.1.1.2.2.1; omega) (HG.out.1.below HX.out.2.2.2)).mono ?_; rintro e w2 ⟨v2, rfl, ⟨K, hrow⟩, hb2⟩; obtain ⟨ao2, co2, al2, cl2, ac2, cc2, hv2, -⟩ := hrow.own.shape; subst hv2; have z2 : w1.heap.size ≤ w2.heap.size := hb2.size; obtain ⟨W, hW⟩ : ∃ W, W = w2.alloc (.cells #[.int .i64 B.n, .slice ao2 B.orders.length co2, .slice al2 B.locked.length cl2, .slice ac2 B.occ.length cc2] 37) := ⟨_, rfl⟩; have st : Below w2.heap.size w2 W := by rw [hW]; exact below1 _ _
 have bwW := below_trans (below_trans HX.out.2.2.2 HX.out.2.2.2.size hb2) (Nat.le_trans HX.out.2.2.2.size hb2.size) st
 have HP : SPre w W w1.heap.size w2.heap.size B E ao co al cl ac cc ad ca ao2 co2 al2 cl2 ac2 cc2 K :=
  ⟨(st.block _ (by omega)).trans ((hb2.block _ (by omega)).trans HX.out.1), (st.block _ (by omega)).trans ((hb2.block _ (by omega)).trans HX.out.2.1), (st.block _ (by omega)).trans ((hb2.block _ (by omega)).trans HX.out.2.2.1), by rw [hW]; exact Deep.blk_alloc_new _ _, hrow.below st, bwW, z1, z2, fun b hb => by have := hrow.own.blocks_lt hb; omega, HG.out.1.below bwW, HG.out.2.2.below bwW⟩
 have HS : Hid (SPre w W w1.heap.size w2.heap.size B E ao co al cl ac cc ad ca ao2 co2 al2 cl2 ac2 cc2 K) := HP; have HW : Hid (W = w2.alloc (.cells #[.int .i64 B.n, .slice ao2 B.orders.length co2, .slice al2 B.locked.length cl2, .slice ac2 B.occ.length cc2] 37)) := hW; clear HP st bwW hW hrow hb2 m0 m1 m2 m3 HX HG; have e0L := (ev_cells HS.out.b1).1; rw [HW.out] at e0L
 go_upto_block 0 with (fail)
 rw [← HW.out]; clear HW e0L
 go_cut [6, 7, 8, 9] (fun c _ _ _ wc => c = .int .i64 (doP B E).1 ∧ MeetD w wc w1.heap.size w2.heap.size (doP B E).2)
 case first =>
  have hin := EvOk.some HK.out; unfold In at hin; obtain ⟨e0, e1, e2, e3, e4, e5⟩ := ev_cells HS.out.b1; obtain ⟨m0, m1, m2, m3⟩ := box_cells HS.out.b0; obtain ⟨p0, p1, p2, p3⟩ := box_cells HS.out.bp; have hO : B.orders.length ≤ 200 := HK.out.1.1.2.2.2
  by_cases o1 : E.op = 1
  ·
   have T : (E.op == 1) = true := by simpa using o1
   have HOp : Hid (E.op = 1) := o1; clear o1 hin; obtain ⟨ii, hii, zi0, zi1, zi2⟩ := info_parts Tryz.infoInt; obtain ⟨io, hio, zo0, zo1, zo2⟩ := info_parts Tryz.infoOrder
   by_cases h200 : B.orders.length < 200
   case neg =>
    have t1 : ((B.orders.length : Int) == 200) = true := by simp; omega
    go_wp2
    go_meet
    case rel => exact ⟨by rw [doP_write HK.out HOp.out]; unfold doWrite; rw [if_neg h200], by rw [doP_write HK.out HOp.out]; unfold doWrite; rw [if_neg h200]; exact HS.out.same⟩
   have t1 : ((B.orders.length : Int) == 200) = false := by simp; omega
   go_wp2; clear t1 m0 m1 m2 m3 e0 e1 e5 p0 p2 p3; have zq : w.heap.size + 1 < W.heap.size := (Array.getElem?_eq_some_iff.1 HS.out.b1).1; have zp : w2.heap.size < W.heap.size := (Array.getElem?_eq_some_iff.1 HS.out.bp).1; refine wp_region_held_drew (S := (fun w' => w'.cell? ⟨w.heap.size + 1, 2, none⟩ = some (.string E.holder) ∧ w'.cell? ⟨w.heap.size + 1, 3, none⟩ = some (.int .i64 E.kind) ∧ w'.cell? ⟨w.heap.size + 1, 4, none⟩ = some (.slice ad E.secs.length ca))) (by kernel_rfl) ⟨e2, e3, e4⟩ (fun hS0 => ?_); refine tk 0 rfl ?_; refine tk 2 rfl ?_; refine tk 3 rfl ?_; refine tk 4 rfl ?_; refine tk 5 rfl ?_; refine tk 7 rfl ?_; refine tk 8 rfl ?_; refine wpAnyH_ready (rs := [1, 6]) (by kernel_rfl) (by simp) ?_; refine AllReadyH.cons rfl (fun Kx hK => ?_) (AllReadyH.cons rfl (fun Kx hK => ?_) (AllReadyH.nil))
   ·
    go_simp; refine hK.out _ _ hS0 (fun hS1 => ?_); clear hK Kx; refine rdy1 6 rfl (fun Kx hK => ?_); go_simp; refine hK.out _ _ ⟨by simp [e2, World.cell?_alloc_some], by simp [e3, World.cell?_alloc_some], by simp [e4, World.cell?_alloc_some]⟩ (fun hS2 => ?_); clear hK Kx; have p6 : (W.alloc (.cells #[] 3)).drew.cell? ⟨w2.heap.size, 1, none⟩ = some (.slice ao2 B.orders.length co2) := by simp [p1, World.cell?_alloc_some]
    refine rdy1 9 rfl (fun Kx hK => ?_); have B6 : Below W.heap.size W (W.alloc (.cells #[] 3)).drew := (below1 _ _).drew; have s6 : (W.alloc (.cells #[] 3)).drew.heap.size = W.heap.size + 1 := alloc_size _ _; have ow : (W.alloc (.cells #[] 3)).drew.ownsRow W.heap.size 3 1 (.slice (some ⟨W.heap.size, 0, none⟩) 0 0) 0 [] := owns_below (World.ownsRow_lit (e := 3) (base := W.heap.size) (size := 1) W #[] 0 (Nat.le_refl _) (by unfold maxLen; omega) rfl) (Below.refl _ _).drew; refine wp_append_cells _ _ 30 rfl W.heap.size 3 ii (.int .i64 0) 8 Tryz.underlying30 hii zi0 zi1 zi2 rfl _ _ _ rfl ow ad E.secs.length ca (iV E.secs) rfl (HS.out.ge.below B6) (fun _ => rfl) (by unfold maxLen; omega) (by omega) (by rw [s6]; omega) ?_; intro vS wS hownS hgS _ hbS; rw [Nat.zero_add] at hownS; obtain ⟨adS, cS, GS, rfl, hpS⟩ := pre_of_owns (size := 1) (V := iV E.secs) (by rw [Nat.mul_one]; exact hownS); rw [Nat.mul_one] at hpS; have bS0 : Below W.heap.size (W.alloc (.cells #[] 3)).drew wS := grown_below hgS (fun g hg => by have h2 : W.heap.size = g := Option.some.inj hg; omega) (by rw [s6]; omega); have bS : Below W.heap.size W wS := B6.trans bS0; have zS : W.heap.size ≤ wS.heap.size := bS.size; have HY : Hid ((0 < E.secs.length → adS = some ⟨GS, 0, none⟩ ∧ W.heap.size ≤ GS ∧ Pre wS GS 3 E.secs.length (iV E.secs)) ∧ Below W.heap.size W wS) := ⟨fun q => ⟨(hpS q).1, (hpS q).2.1, (hpS q).2.2.1⟩, bS⟩; have oS : wS.cell? ⟨w2.heap.size, 1, none⟩ = some (.slice ao2 B.orders.length co2) := (bS.cell (p := ⟨w2.heap.size, 1, none⟩) zp).trans p1; have hSS : wS.cell? ⟨w.heap.size + 1, 2, none⟩ = some (.string E.holder) ∧ wS.cell? ⟨w.heap.size + 1, 3, none⟩ = some (.int .i64 E.kind) ∧ wS.cell? ⟨w.heap.size + 1, 4, none⟩ = some (.slice ad E.secs.length ca) := ⟨(bS.cell (p := ⟨w.heap.size + 1, 2, none⟩) zq).trans e2, (bS.cell (p := ⟨w.heap.size + 1, 3, none⟩) zq).trans e3, (bS.cell (p := ⟨w.heap.size + 1, 4, none⟩) zq).trans e4⟩; refine hK.out _ _ hSS (fun hS3 => ?_); clear hK Kx B6 s6 ow hownS hgS hbS hpS bS0 bS hSS p6; refine tk 10 rfl ?_; refine rdy1 11 rfl (fun Kx hK => ?_); go_simp; refine hK.out _ _ ⟨by simp [hS3, World.cell?_alloc_some], by simp [hS3, World.cell?_alloc_some], by simp [hS3, World.cell?_alloc_some]⟩ (fun hS4 => ?_); clear hK Kx; refine rdy1 12 rfl (fun Kx hK => ?_); have S4 : Below W.heap.size W (wS.alloc (.cells #[.string E.holder, .int .i64 E.kind, .slice adS E.secs.length cS, .int .i64 1] 41)) := HY.out.2.alloc (by omega) _; have R4 := HS.out.rb.below S4
    have n4 : ∀ j u', (cellsOf (eOrd E) adS cS)[j]? = some u' → (wS.alloc (.cells #[.string E.holder, .int .i64 E.kind, .slice adS E.secs.length cS, .int .i64 1] 41)).cell? ((⟨wS.heap.size, 0, none⟩ : Addr).add j) = some u' := by
     have hn := Deep.blk_alloc_new wS (.cells #[.string E.holder, .int .i64 E.kind, .slice adS E.secs.length cS, .int .i64 1] 41); intro j u' hu; rw [add0]; refine cell_of_box hn ?_; rw [← Array.getElem?_toList]; exact hu
    have hrow : (wS.alloc (.cells #[.string E.holder, .int .i64 E.kind, .slice adS E.secs.length cS, .int .i64 1] 41)).ownsRow w1.heap.size 41 4 (.slice ao2 B.orders.length co2) B.orders.length (flat (bX B) K.sa K.sc B.orders.length) := by
     obtain ⟨u, _, _, e, q, _⟩ := R4.row; simp only [Value.agg.injEq, Array.mk.injEq, List.cons.injEq, and_true] at e; obtain ⟨-, rfl, -, -⟩ := e; exact q.row
    have z4 : (wS.alloc (.cells #[.string E.holder, .int .i64 E.kind, .slice adS E.secs.length cS, .int .i64 1] 41)).heap.size = wS.heap.size + 1 := alloc_size _ _; refine wp_append_row _ _ 34 rfl w1.heap.size 41 io _ 4 56 Tryz.underlying34 hio zo0 zo1 zo2 rfl (by decide) (.slice ao2 B.orders.length co2) B.orders.length (flat (bX B) K.sa K.sc B.orders.length) rfl hrow ⟨wS.heap.size, 0, none⟩ 1 1 (cellsOf (eOrd E) adS cS) rfl rfl n4 ?_ (by unfold maxLen; omega) (by omega) (by rw [z4]; omega) ?_
    ·
     intro x hx; simp only [cellsOf, List.mem_cons, List.not_mem_nil, or_false] at hx
     rcases hx with rfl | rfl | rfl | rfl <;> rfl
    intro vU wU hownU hgU _ hbU; have big : ∀ b, bookBlocks B K b → b < W.heap.size := fun b hb => HS.out.rb.own.blocks_lt hb
    obtain ⟨K', adU, cU, rfl, hOwn, hblk⟩ := ownBook_push R4 (x := eOrd E) (GS := GS) (adS := adS) (cS := cS) (fun q => by
     obtain ⟨t1, t2, t3⟩ := HY.out.1 q
     exact ⟨t1, t3.of_block (Deep.blk_alloc_lt _ _ _ t3.lt), by omega, fun b hb => by have := big b hb; omega⟩) hownU hgU hbU
    have pne : ∀ g, (Value.slice ao2 B.orders.length co2).ownBlock = some g → bookBlocks B K g := fun g hg => by
     obtain ⟨u, _, _, e, q, q2⟩ := R4.row; simp only [Value.agg.injEq, Array.mk.injEq, List.cons.injEq, and_true] at e; obtain ⟨-, rfl, -, -⟩ := e; rcases Nat.eq_zero_or_pos B.orders.length with e3 | e3
     ·
      rw [q.nil e3] at hg; cases hg
     ·
      rw [q2 e3] at hg; exact Or.inl (Or.inl ⟨e3, (Option.some.inj hg).symm⟩)
    have kept : ∀ b, b < W.heap.size → ¬ bookBlocks B K b → wU.heap[b]? = W.heap[b]? := fun b hb hn => (hgU.block b (by rw [z4]; omega) (fun e => hn (pne b e.symm))).trans (S4.block b hb); have y2U : wU.heap[w2.heap.size]? = some (.cells #[.int .i64 B.n, .slice ao2 B.orders.length co2, .slice al2 B.locked.length cl2, .slice ac2 B.occ.length cc2] 37 (0, 0)) := (kept _ zp (fun q => HS.out.np _ q rfl)).trans HS.out.bp; have y3U : wU.heap[w.heap.size + 1 + 1]? = some (.cells #[.int .i64 0, .int .i64 0, .slice none 0 0, .slice none 0 0, .slice none 0 0] 39 (0, 0)) := (kept _ (Array.getElem?_eq_some_iff.1 HS.out.b2).1 (fun q => by have := HS.out.rb.own.blocks_low q; omega)).trans HS.out.b2; have y4U : wU.heap[w.heap.size + 1]? = some (.cells #[.int .i64 E.op, .int .i64 E.of_, .string E.holder, .int .i64 E.kind, .slice ad E.secs.length ca, .string E.text] 32 (0, 0)) := (kept _ zq (fun q => by have := HS.out.rb.own.blocks_low q; omega)).trans HS.out.b1; have lowU : Below w1.heap.size (wS.alloc (.cells #[.string E.holder, .int .i64 E.kind, .slice adS E.secs.length cS, .int .i64 1] 41)) wU := grown_below hgU (fun g hg => (owns_lt hrow hg).1) (by rw [z4]; omega)
    have HU : Hid (OwnBook wU w1.heap.size (.agg #[.int .i64 B.n, .slice adU (B.orders.length + 1) cU, .slice al2 B.locked.length cl2, .slice ac2 B.occ.length cc2]) (addOrd B (eOrd E)) K' ∧ wU.heap[w2.heap.size]? = some (.cells #[.int .i64 B.n, .slice ao2 B.orders.length co2, .slice al2 B.locked.length cl2, .slice ac2 B.occ.length cc2] 37 (0, 0)) ∧ wU.heap[w.heap.size + 1 + 1]? = some (.cells #[.int .i64 0, .int .i64 0, .slice none 0 0, .slice none 0 0, .slice none 0 0] 39 (0, 0)) ∧ Below w.heap.size w wU ∧ (∀ b, bookBlocks (addOrd B (eOrd E)) K' b → b ≠ w2.heap.size)) :=
     ⟨hOwn, y2U, y3U, (HS.out.bw.trans (S4.mono HS.out.bw.size)).trans (lowU.mono (by omega)), fun b hb => by
      rcases hblk b hb with h | ⟨q, h⟩ | h
      · exact HS.out.np b h
      · have := (HY.out.1 q).2.1; omega
      · omega⟩
    have oU : wU.cell? ⟨w2.heap.size, 1, none⟩ = some (.slice ao2 B.orders.length co2) := cell_of_box y2U rfl; have fU : wU.frozen? ⟨w2.heap.size, 1, none⟩ = false := frozen_of_box y2U; have hSU : wU.cell? ⟨w.heap.size + 1, 2, none⟩ = some (.string E.holder) ∧ wU.cell? ⟨w.heap.size + 1, 3, none⟩ = some (.int .i64 E.kind) ∧ wU.cell? ⟨w.heap.size + 1, 4, none⟩ = some (.slice ad E.secs.length ca) := ⟨cell_of_box y4U rfl, cell_of_box y4U rfl, cell_of_box y4U rfl⟩; refine hK.out _ _ hSU (fun hS12 => ?_); clear hK Kx hownU hgU hbU z4 y2U y3U y4U HY S4 R4 n4 oS hrow big hOwn hblk pne kept lowU hSU; refine tk 13 rfl ?_; refine rdy1 14 rfl (fun Kx hK => ?_); go_simp; refine hK.out _ _ ⟨by simp [go_sem, hS12], by simp [go_sem, hS12], by simp [go_sem, hS12]⟩ (fun hS14 => ?_); clear hK Kx; refine wpAnyH_done (by kernel_rfl) ?_ _; go_simp; clear hS0 hS12 hS14 oU fU; go_wp2
    go_meet
    case rel =>
     obtain ⟨t1, t2, t3, t4, t5⟩ := HU.out; refine ⟨by rw [doP_write HK.out HOp.out]; unfold doWrite; rw [if_pos h200], ?_⟩; rw [doP_write HK.out HOp.out]; unfold doWrite; rw [if_pos h200]; exact ⟨_, _, _, _, K', (box_set t2 _).trans rfl, t1.setOther (a := ⟨w2.heap.size, 1, none⟩) t5 _, (box_other (by omega) _).trans t3, below_set t4 _ _ (by omega) _⟩
   ·
    go_simp; refine hK.out _ _ ⟨by simp [e2, World.cell?_alloc_some], by simp [e3, World.cell?_alloc_some], by simp [e4, World.cell?_alloc_some]⟩ (fun hS1 => ?_); clear hK Kx; have p6 : (W.alloc (.cells #[] 3)).drew.cell? ⟨w2.heap.size, 1, none⟩ = some (.slice ao2 B.orders.length co2) := by simp [p1, World.cell?_alloc_some]
    refine wpAnyH_ready (rs := [1, 9]) (by kernel_rfl) (by simp) ?_; refine AllReadyH.cons rfl (fun Kx hK => ?_) (AllReadyH.cons rfl (fun Kx hK => ?_) (AllReadyH.nil))
    ·
     go_simp; refine hK.out _ _ hS1 (fun hS2 => ?_); clear hK Kx; refine rdy1 9 rfl (fun Kx hK => ?_); have B6 : Below W.heap.size W (W.alloc (.cells #[] 3)).drew := (below1 _ _).drew; have s6 : (W.alloc (.cells #[] 3)).drew.heap.size = W.heap.size + 1 := alloc_size _ _; have ow : (W.alloc (.cells #[] 3)).drew.ownsRow W.heap.size 3 1 (.slice (some ⟨W.heap.size, 0, none⟩) 0 0) 0 [] := owns_below (World.ownsRow_lit (e := 3) (base := W.heap.size) (size := 1) W #[] 0 (Nat.le_refl _) (by unfold maxLen; omega) rfl) (Below.refl _ _).drew; refine wp_append_cells _ _ 30 rfl W.heap.size 3 ii (.int .i64 0) 8 Tryz.underlying30 hii zi0 zi1 zi2 rfl _ _ _ rfl ow ad E.secs.length ca (iV E.secs) rfl (HS.out.ge.below B6) (fun _ => rfl) (by unfold maxLen; omega) (by omega) (by rw [s6]; omega) ?_; intro vS wS hownS hgS _ hbS; rw [Nat.zero_add] at hownS; obtain ⟨adS, cS, GS, rfl, hpS⟩ := pre_of_owns (size := 1) (V := iV E.secs) (by rw [Nat.mul_one]; exact hownS); rw [Nat.mul_one] at hpS; have bS0 : Below W.heap.size (W.alloc (.cells #[] 3)).drew wS := grown_below hgS (fun g hg => by have h2 : W.heap.size = g := Option.some.inj hg; omega) (by rw [s6]; omega); have bS : Below W.heap.size W wS := B6.trans bS0; have zS : W.heap.size ≤ wS.heap.size := bS.size; have HY : Hid ((0 < E.secs.length → adS = some ⟨GS, 0, none⟩ ∧ W.heap.size ≤ GS ∧ Pre wS GS 3 E.secs.length (iV E.secs)) ∧ Below W.heap.size W wS) := ⟨fun q => ⟨(hpS q).1, (hpS q).2.1, (hpS q).2.2.1⟩, bS⟩; have oS : wS.cell? ⟨w2.heap.size, 1, none⟩ = some (.slice ao2 B.orders.length co2) := (bS.cell (p := ⟨w2.heap.size, 1, none⟩) zp).trans p1; have hSS : wS.cell? ⟨w.heap.size + 1, 2, none⟩ = some (.string E.holder) ∧ wS.cell? ⟨w.heap.size + 1, 3, none⟩ = some (.int .i64 E.kind) ∧ wS.cell? ⟨w.heap.size + 1, 4, none⟩ = some (.slice ad E.secs.length ca) := ⟨(bS.cell (p := ⟨w.heap.size + 1, 2, none⟩) zq).trans e2, (bS.cell (p := ⟨w.heap.size + 1, 3, none⟩) zq).trans e3, (bS.cell (p := ⟨w.heap.size + 1, 4, none⟩) zq).trans e4⟩; refine hK.out _ _ hSS (fun hS3 => ?_); clear hK Kx B6 s6 ow hownS hgS hbS hpS bS0 bS hSS p6; refine tk 10 rfl ?_; refine rdy1 11 rfl (fun Kx hK => ?_); go_simp; refine hK.out _ _ ⟨by simp [hS3, World.cell?_alloc_some], by simp [hS3, World.cell?_alloc_some], by simp [hS3, World.cell?_alloc_some]⟩ (fun hS4 => ?_); clear hK Kx; refine rdy1 12 rfl (fun Kx hK => ?_); have S4 : Below W.heap.size W (wS.alloc (.cells #[.string E.holder, .int .i64 E.kind, .slice adS E.secs.length cS, .int .i64 1] 41)) := HY.out.2.alloc (by omega) _; have R4 := HS.out.rb.below S4
     have n4 : ∀ j u', (cellsOf (eOrd E) adS cS)[j]? = some u' → (wS.alloc (.cells #[.string E.holder, .int .i64 E.kind, .slice adS E.secs.length cS, .int .i64 1] 41)).cell? ((⟨wS.heap.size, 0, none⟩ : Addr).add j) = some u' := by
      have hn := Deep.blk_alloc_new wS (.cells #[.string E.holder, .int .i64 E.kind, .slice adS E.secs.length cS, .int .i64 1] 41); intro j u' hu; rw [add0]; refine cell_of_box hn ?_; rw [← Array.getElem?_toList]; exact hu
     have hrow : (wS.alloc (.cells #[.string E.holder, .int .i64 E.kind, .slice adS E.secs.length cS, .int .i64 1] 41)).ownsRow w1.heap.size 41 4 (.slice ao2 B.orders.length co2) B.orders.length (flat (bX B) K.sa K.sc B.orders.length) := by
      obtain ⟨u, _, _, e, q, _⟩ := R4.row; simp only [Value.agg.injEq, Array.mk.injEq, List.cons.injEq, and_true] at e; obtain ⟨-, rfl, -, -⟩ := e; exact q.row
     have z4 : (wS.alloc (.cells #[.string E.holder, .int .i64 E.kind, .slice adS E.secs.length cS, .int .i64 1] 41)).heap.size = wS.heap.size + 1 := alloc_size _ _; refine wp_append_row _ _ 34 rfl w1.heap.size 41 io _ 4 56 Tryz.underlying34 hio zo0 zo1 zo2 rfl (by decide) (.slice ao2 B.orders.length co2) B.orders.length (flat (bX B) K.sa K.sc B.orders.length) rfl hrow ⟨wS.heap.size, 0, none⟩ 1 1 (cellsOf (eOrd E) adS cS) rfl rfl n4 ?_ (by unfold maxLen; omega) (by omega) (by rw [z4]; omega) ?_
     ·
      intro x hx; simp only [cellsOf, List.mem_cons, List.not_mem_nil, or_false] at hx
      rcases hx with rfl | rfl | rfl | rfl <;> rfl
     intro vU wU hownU hgU _ hbU; have big : ∀ b, bookBlocks B K b → b < W.heap.size := fun b hb => HS.out.rb.own.blocks_lt hb
     obtain ⟨K', adU, cU, rfl, hOwn, hblk⟩ := ownBook_push R4 (x := eOrd E) (GS := GS) (adS := adS) (cS := cS) (fun q => by
      obtain ⟨t1, t2, t3⟩ := HY.out.1 q
      exact ⟨t1, t3.of_block (Deep.blk_alloc_lt _ _ _ t3.lt), by omega, fun b hb => by have := big b hb; omega⟩) hownU hgU hbU
     have pne : ∀ g, (Value.slice ao2 B.orders.length co2).ownBlock = some g → bookBlocks B K g := fun g hg => by
      obtain ⟨u, _, _, e, q, q2⟩ := R4.row; simp only [Value.agg.injEq, Array.mk.injEq, List.cons.injEq, and_true] at e; obtain ⟨-, rfl, -, -⟩ := e; rcases Nat.eq_zero_or_pos B.orders.length with e3 | e3
      ·
       rw [q.nil e3] at hg; cases hg
      ·
       rw [q2 e3] at hg; exact Or.inl (Or.inl ⟨e3, (Option.some.inj hg).symm⟩)
     have kept : ∀ b, b < W.heap.size → ¬ bookBlocks B K b → wU.heap[b]? = W.heap[b]? := fun b hb hn => (hgU.block b (by rw [z4]; omega) (fun e => hn (pne b e.symm))).trans (S4.block b hb); have y2U : wU.heap[w2.heap.size]? = some (.cells #[.int .i64 B.n, .slice ao2 B.orders.length co2, .slice al2 B.locked.length cl2, .slice ac2 B.occ.length cc2] 37 (0, 0)) := (kept _ zp (fun q => HS.out.np _ q rfl)).trans HS.out.bp; have y3U : wU.heap[w.heap.size + 1 + 1]? = some (.cells #[.int .i64 0, .int .i64 0, .slice none 0 0, .slice none 0 0, .slice none 0 0] 39 (0, 0)) := (kept _ (Array.getElem?_eq_some_iff.1 HS.out.b2).1 (fun q => by have := HS.out.rb.own.blocks_low q; omega)).trans HS.out.b2; have y4U : wU.heap[w.heap.size + 1]? = some (.cells #[.int .i64 E.op, .int .i64 E.of_, .string E.holder, .int .i64 E.kind, .slice ad E.secs.length ca, .string E.text] 32 (0, 0)) := (kept _ zq (fun q => by have := HS.out.rb.own.blocks_low q; omega)).trans HS.out.b1; have lowU : Below w1.heap.size (wS.alloc (.cells #[.string E.holder, .int .i64 E.kind, .slice adS E.secs.length cS, .int .i64 1] 41)) wU := grown_below hgU (fun g hg => (owns_lt hrow hg).1) (by rw [z4]; omega)
     have HU : Hid (OwnBook wU w1.heap.size (.agg #[.int .i64 B.n, .slice adU (B.orders.length + 1) cU, .slice al2 B.locked.length cl2, .slice ac2 B.occ.length cc2]) (addOrd B (eOrd E)) K' ∧ wU.heap[w2.heap.size]? = some (.cells #[.int .i64 B.n, .slice ao2 B.orders.length co2, .slice al2 B.locked.length cl2, .slice ac2 B.occ.length cc2] 37 (0, 0)) ∧ wU.heap[w.heap.size + 1 + 1]? = some (.cells #[.int .i64 0, .int .i64 0, .slice none 0 0, .slice none 0 0, .slice none 0 0] 39 (0, 0)) ∧ Below w.heap.size w wU ∧ (∀ b, bookBlocks (addOrd B (eOrd E)) K' b → b ≠ w2.heap.size)) :=
      ⟨hOwn, y2U, y3U, (HS.out.bw.trans (S4.mono HS.out.bw.size)).trans (lowU.mono (by omega)), fun b hb => by
       rcases hblk b hb with h | ⟨q, h⟩ | h
       · exact HS.out.np b h
       · have := (HY.out.1 q).2.1; omega
       · omega⟩
     have oU : wU.cell? ⟨w2.heap.size, 1, none⟩ = some (.slice ao2 B.orders.length co2) := cell_of_box y2U rfl; have fU : wU.frozen? ⟨w2.heap.size, 1, none⟩ = false := frozen_of_box y2U; have hSU : wU.cell? ⟨w.heap.size + 1, 2, none⟩ = some (.string E.holder) ∧ wU.cell? ⟨w.heap.size + 1, 3, none⟩ = some (.int .i64 E.kind) ∧ wU.cell? ⟨w.heap.size + 1, 4, none⟩ = some (.slice ad E.secs.length ca) := ⟨cell_of_box y4U rfl, cell_of_box y4U rfl, cell_of_box y4U rfl⟩; refine hK.out _ _ hSU (fun hS12 => ?_); clear hK Kx hownU hgU hbU z4 y2U y3U y4U HY S4 R4 n4 oS hrow big hOwn hblk pne kept lowU hSU; refine tk 13 rfl ?_; refine rdy1 14 rfl (fun Kx hK => ?_); go_simp; refine hK.out _ _ ⟨by simp [go_sem, hS12], by simp [go_sem, hS12], by simp [go_sem, hS12]⟩ (fun hS14 => ?_); clear hK Kx; refine wpAnyH_done (by kernel_rfl) ?_ _; go_simp; clear hS0 hS12 hS14 oU fU; go_wp2
     go_meet
     case rel =>
      obtain ⟨t1, t2, t3, t4, t5⟩ := HU.out; refine ⟨by rw [doP_write HK.out HOp.out]; unfold doWrite; rw [if_pos h200], ?_⟩; rw [doP_write HK.out HOp.out]; unfold doWrite; rw [if_pos h200]; exact ⟨_, _, _, _, K', (box_set t2 _).trans rfl, t1.setOther (a := ⟨w2.heap.size, 1, none⟩) t5 _, (box_other (by omega) _).trans t3, below_set t4 _ _ (by omega) _⟩
    ·
     have B6 : Below W.heap.size W (W.alloc (.cells #[] 3)).drew := (below1 _ _).drew; have s6 : (W.alloc (.cells #[] 3)).drew.heap.size = W.heap.size + 1 := alloc_size _ _; have ow : (W.alloc (.cells #[] 3)).drew.ownsRow W.heap.size 3 1 (.slice (some ⟨W.heap.size, 0, none⟩) 0 0) 0 [] := owns_below (World.ownsRow_lit (e := 3) (base := W.heap.size) (size := 1) W #[] 0 (Nat.le_refl _) (by unfold maxLen; omega) rfl) (Below.refl _ _).drew; refine wp_append_cells _ _ 30 rfl W.heap.size 3 ii (.int .i64 0) 8 Tryz.underlying30 hii zi0 zi1 zi2 rfl _ _ _ rfl ow ad E.secs.length ca (iV E.secs) rfl (HS.out.ge.below B6) (fun _ => rfl) (by unfold maxLen; omega) (by omega) (by rw [s6]; omega) ?_; intro vS wS hownS hgS _ hbS; rw [Nat.zero_add] at hownS; obtain ⟨adS, cS, GS, rfl, hpS⟩ := pre_of_owns (size := 1) (V := iV E.secs) (by rw [Nat.mul_one]; exact hownS); rw [Nat.mul_one] at hpS; have bS0 : Below W.heap.size (W.alloc (.cells #[] 3)).drew wS := grown_below hgS (fun g hg => by have h2 : W.heap.size = g := Option.some.inj hg; omega) (by rw [s6]; omega); have bS : Below W.heap.size W wS := B6.trans bS0; have zS : W.heap.size ≤ wS.heap.size := bS.size; have HY : Hid ((0 < E.secs.length → adS = some ⟨GS, 0, none⟩ ∧ W.heap.size ≤ GS ∧ Pre wS GS 3 E.secs.length (iV E.secs)) ∧ Below W.heap.size W wS) := ⟨fun q => ⟨(hpS q).1, (hpS q).2.1, (hpS q).2.2.1⟩, bS⟩; have oS : wS.cell? ⟨w2.heap.size, 1, none⟩ = some (.slice ao2 B.orders.length co2) := (bS.cell (p := ⟨w2.heap.size, 1, none⟩) zp).trans p1; have hSS : wS.cell? ⟨w.heap.size + 1, 2, none⟩ = some (.string E.holder) ∧ wS.cell? ⟨w.heap.size + 1, 3, none⟩ = some (.int .i64 E.kind) ∧ wS.cell? ⟨w.heap.size + 1, 4, none⟩ = some (.slice ad E.secs.length ca) := ⟨(bS.cell (p := ⟨w.heap.size + 1, 2, none⟩) zq).trans e2, (bS.cell (p := ⟨w.heap.size + 1, 3, none⟩) zq).trans e3, (bS.cell (p := ⟨w.heap.size + 1, 4, none⟩) zq).trans e4⟩; refine hK.out _ _ hSS (fun hS2 => ?_); clear hK Kx B6 s6 ow hownS hgS hbS hpS bS0 bS hSS p6; refine tk 10 rfl ?_; refine wpAnyH_ready (rs := [1, 11]) (by kernel_rfl) (by simp) ?_; refine AllReadyH.cons rfl (fun Kx hK => ?_) (AllReadyH.cons rfl (fun Kx hK => ?_) (AllReadyH.nil))
     ·
      go_simp; refine hK.out _ _ hS2 (fun hS3 => ?_); clear hK Kx; refine rdy1 11 rfl (fun Kx hK => ?_); go_simp; refine hK.out _ _ ⟨by simp [hS3, World.cell?_alloc_some], by simp [hS3, World.cell?_alloc_some], by simp [hS3, World.cell?_alloc_some]⟩ (fun hS4 => ?_); clear hK Kx; refine rdy1 12 rfl (fun Kx hK => ?_); have S4 : Below W.heap.size W (wS.alloc (.cells #[.string E.holder, .int .i64 E.kind, .slice adS E.secs.length cS, .int .i64 1] 41)) := HY.out.2.alloc (by omega) _; have R4 := HS.out.rb.below S4
      have n4 : ∀ j u', (cellsOf (eOrd E) adS cS)[j]? = some u' → (wS.alloc (.cells #[.string E.holder, .int .i64 E.kind, .slice adS E.secs.length cS, .int .i64 1] 41)).cell? ((⟨wS.heap.size, 0, none⟩ : Addr).add j) = some u' := by
       have hn := Deep.blk_alloc_new wS (.cells #[.string E.holder, .int .i64 E.kind, .slice adS E.secs.length cS, .int .i64 1] 41); intro j u' hu; rw [add0]; refine cell_of_box hn ?_; rw [← Array.getElem?_toList]; exact hu
      have hrow : (wS.alloc (.cells #[.string E.holder, .int .i64 E.kind, .slice adS E.secs.length cS, .int .i64 1] 41)).ownsRow w1.heap.size 41 4 (.slice ao2 B.orders.length co2) B.orders.length (flat (bX B) K.sa K.sc B.orders.length) := by
       obtain ⟨u, _, _, e, q, _⟩ := R4.row; simp only [Value.agg.injEq, Array.mk.injEq, List.cons.injEq, and_true] at e; obtain ⟨-, rfl, -, -⟩ := e; exact q.row
      have z4 : (wS.alloc (.cells #[.string E.holder, .int .i64 E.kind, .slice adS E.secs.length cS, .int .i64 1] 41)).heap.size = wS.heap.size + 1 := alloc_size _ _; refine wp_append_row _ _ 34 rfl w1.heap.size 41 io _ 4 56 Tryz.underlying34 hio zo0 zo1 zo2 rfl (by decide) (.slice ao2 B.orders.length co2) B.orders.length (flat (bX B) K.sa K.sc B.orders.length) rfl hrow ⟨wS.heap.size, 0, none⟩ 1 1 (cellsOf (eOrd E) adS cS) rfl rfl n4 ?_ (by unfold maxLen; omega) (by omega) (by rw [z4]; omega) ?_
      ·
       intro x hx; simp only [cellsOf, List.mem_cons, List.not_mem_nil, or_false] at hx
       rcases hx with rfl | rfl | rfl | rfl <;> rfl
      intro vU wU hownU hgU _ hbU; have big : ∀ b, bookBlocks B K b → b < W.heap.size := fun b hb => HS.out.rb.own.blocks_lt hb
      obtain ⟨K', adU, cU, rfl, hOwn, hblk⟩ := ownBook_push R4 (x := eOrd E) (GS := GS) (adS := adS) (cS := cS) (fun q => by
       obtain ⟨t1, t2, t3⟩ := HY.out.1 q
       exact ⟨t1, t3.of_block (Deep.blk_alloc_lt _ _ _ t3.lt), by omega, fun b hb => by have := big b hb; omega⟩) hownU hgU hbU
      have pne : ∀ g, (Value.slice ao2 B.orders.length co2).ownBlock = some g → bookBlocks B K g := fun g hg => by
       obtain ⟨u, _, _, e, q, q2⟩ := R4.row; simp only [Value.agg.injEq, Array.mk.injEq, List.cons.injEq, and_true] at e; obtain ⟨-, rfl, -, -⟩ := e; rcases Nat.eq_zero_or_pos B.orders.length with e3 | e3
       ·
        rw [q.nil e3] at hg; cases hg
       ·
        rw [q2 e3] at hg; exact Or.inl (Or.inl ⟨e3, (Option.some.inj hg).symm⟩)
      have kept : ∀ b, b < W.heap.size → ¬ bookBlocks B K b → wU.heap[b]? = W.heap[b]? := fun b hb hn => (hgU.block b (by rw [z4]; omega) (fun e => hn (pne b e.symm))).trans (S4.block b hb); have y2U : wU.heap[w2.heap.size]? = some (.cells #[.int .i64 B.n, .slice ao2 B.orders.length co2, .slice al2 B.locked.length cl2, .slice ac2 B.occ.length cc2] 37 (0, 0)) := (kept _ zp (fun q => HS.out.np _ q rfl)).trans HS.out.bp; have y3U : wU.heap[w.heap.size + 1 + 1]? = some (.cells #[.int .i64 0, .int .i64 0, .slice none 0 0, .slice none 0 0, .slice none 0 0] 39 (0, 0)) := (kept _ (Array.getElem?_eq_some_iff.1 HS.out.b2).1 (fun q => by have := HS.out.rb.own.blocks_low q; omega)).trans HS.out.b2; have y4U : wU.heap[w.heap.size + 1]? = some (.cells #[.int .i64 E.op, .int .i64 E.of_, .string E.holder, .int .i64 E.kind, .slice ad E.secs.length ca, .string E.text] 32 (0, 0)) := (kept _ zq (fun q => by have := HS.out.rb.own.blocks_low q; omega)).trans HS.out.b1; have lowU : Below w1.heap.size (wS.alloc (.cells #[.string E.holder, .int .i64 E.kind, .slice adS E.secs.length cS, .int .i64 1] 41)) wU := grown_below hgU (fun g hg => (owns_lt hrow hg).1) (by rw [z4]; omega)
      have HU : Hid (OwnBook wU w1.heap.size (.agg #[.int .i64 B.n, .slice adU (B.orders.length + 1) cU, .slice al2 B.locked.length cl2, .slice ac2 B.occ.length cc2]) (addOrd B (eOrd E)) K' ∧ wU.heap[w2.heap.size]? = some (.cells #[.int .i64 B.n, .slice ao2 B.orders.length co2, .slice al2 B.locked.length cl2, .slice ac2 B.occ.length cc2] 37 (0, 0)) ∧ wU.heap[w.heap.size + 1 + 1]? = some (.cells #[.int .i64 0, .int .i64 0, .slice none 0 0, .slice none 0 0, .slice none 0 0] 39 (0, 0)) ∧ Below w.heap.size w wU ∧ (∀ b, bookBlocks (addOrd B (eOrd E)) K' b → b ≠ w2.heap.size)) :=
       ⟨hOwn, y2U, y3U, (HS.out.bw.trans (S4.mono HS.out.bw.size)).trans (lowU.mono (by omega)), fun b hb => by
        rcases hblk b hb with h | ⟨q, h⟩ | h
        · exact HS.out.np b h
        · have := (HY.out.1 q).2.1; omega
        · omega⟩
      have oU : wU.cell? ⟨w2.heap.size, 1, none⟩ = some (.slice ao2 B.orders.length co2) := cell_of_box y2U rfl; have fU : wU.frozen? ⟨w2.heap.size, 1, none⟩ = false := frozen_of_box y2U; have hSU : wU.cell? ⟨w.heap.size + 1, 2, none⟩ = some (.string E.holder) ∧ wU.cell? ⟨w.heap.size + 1, 3, none⟩ = some (.int .i64 E.kind) ∧ wU.cell? ⟨w.heap.size + 1, 4, none⟩ = some (.slice ad E.secs.length ca) := ⟨cell_of_box y4U rfl, cell_of_box y4U rfl, cell_of_box y4U rfl⟩; refine hK.out _ _ hSU (fun hS12 => ?_); clear hK Kx hownU hgU hbU z4 y2U y3U y4U HY S4 R4 n4 oS hrow big hOwn hblk pne kept lowU hSU; refine tk 13 rfl ?_; refine rdy1 14 rfl (fun Kx hK => ?_); go_simp; refine hK.out _ _ ⟨by simp [go_sem, hS12], by simp [go_sem, hS12], by simp [go_sem, hS12]⟩ (fun hS14 => ?_); clear hK Kx; refine wpAnyH_done (by kernel_rfl) ?_ _; go_simp; clear hS0 hS12 hS14 oU fU; go_wp2
      go_meet
      case rel =>
       obtain ⟨t1, t2, t3, t4, t5⟩ := HU.out; refine ⟨by rw [doP_write HK.out HOp.out]; unfold doWrite; rw [if_pos h200], ?_⟩; rw [doP_write HK.out HOp.out]; unfold doWrite; rw [if_pos h200]; exact ⟨_, _, _, _, K', (box_set t2 _).trans rfl, t1.setOther (a := ⟨w2.heap.size, 1, none⟩) t5 _, (box_other (by omega) _).trans t3, below_set t4 _ _ (by omega) _⟩
     ·
      go_simp; refine hK.out _ _ ⟨by simp [hS2, World.cell?_alloc_some], by simp [hS2, World.cell?_alloc_some], by simp [hS2, World.cell?_alloc_some]⟩ (fun hS3 => ?_); clear hK Kx; refine rdy1 1 rfl (fun Kx hK => ?_); have oS4 : (wS.alloc (.cells #[.string E.holder, .int .i64 E.kind, .slice adS E.secs.length cS, .int .i64 1] 41)).cell? ⟨w2.heap.size, 1, none⟩ = some (.slice ao2 B.orders.length co2) := by simp [oS, World.cell?_alloc_some]
      go_simp; refine hK.out _ _ hS3 (fun hS4 => ?_); clear hK Kx; clear oS4; refine rdy1 12 rfl (fun Kx hK => ?_); have S4 : Below W.heap.size W (wS.alloc (.cells #[.string E.holder, .int .i64 E.kind, .slice adS E.secs.length cS, .int .i64 1] 41)) := HY.out.2.alloc (by omega) _; have R4 := HS.out.rb.below S4
      have n4 : ∀ j u', (cellsOf (eOrd E) adS cS)[j]? = some u' → (wS.alloc (.cells #[.string E.holder, .int .i64 E.kind, .slice adS E.secs.length cS, .int .i64 1] 41)).cell? ((⟨wS.heap.size, 0, none⟩ : Addr).add j) = some u' := by
       have hn := Deep.blk_alloc_new wS (.cells #[.string E.holder, .int .i64 E.kind, .slice adS E.secs.length cS, .int .i64 1] 41); intro j u' hu; rw [add0]; refine cell_of_box hn ?_; rw [← Array.getElem?_toList]; exact hu
      have hrow : (wS.alloc (.cells #[.string E.holder, .int .i64 E.kind, .slice adS E.secs.length cS, .int .i64 1] 41)).ownsRow w1.heap.size 41 4 (.slice ao2 B.orders.length co2) B.orders.length (flat (bX B) K.sa K.sc B.orders.length) := by
       obtain ⟨u, _, _, e, q, _⟩ := R4.row; simp only [Value.agg.injEq, Array.mk.injEq, List.cons.injEq, and_true] at e; obtain ⟨-, rfl, -, -⟩ := e; exact q.row
      have z4 : (wS.alloc (.cells #[.string E.holder, .int .i64 E.kind, .slice adS E.secs.length cS, .int .i64 1] 41)).heap.size = wS.heap.size + 1 := alloc_size _ _; refine wp_append_row _ _ 34 rfl w1.heap.size 41 io _ 4 56 Tryz.underlying34 hio zo0 zo1 zo2 rfl (by decide) (.slice ao2 B.orders.length co2) B.orders.length (flat (bX B) K.sa K.sc B.orders.length) rfl hrow ⟨wS.heap.size, 0, none⟩ 1 1 (cellsOf (eOrd E) adS cS) rfl rfl n4 ?_ (by unfold maxLen; omega) (by omega) (by rw [z4]; omega) ?_
      ·
       intro x hx; simp only [cellsOf, List.mem_cons, List.not_mem_nil, or_false] at hx
       rcases hx with rfl | rfl | rfl | rfl <;> rfl
      intro vU wU hownU hgU _ hbU; have big : ∀ b, bookBlocks B K b → b < W.heap.size := fun b hb => HS.out.rb.own.blocks_lt hb
      obtain ⟨K', adU, cU, rfl, hOwn, hblk⟩ := ownBook_push R4 (x := eOrd E) (GS := GS) (adS := adS) (cS := cS) (fun q => by
       obtain ⟨t1, t2, t3⟩ := HY.out.1 q
       exact ⟨t1, t3.of_block (Deep.blk_alloc_lt _ _ _ t3.lt), by omega, fun b hb => by have := big b hb; omega⟩) hownU hgU hbU
      have pne : ∀ g, (Value.slice ao2 B.orders.length co2).ownBlock = some g → bookBlocks B K g := fun g hg => by
       obtain ⟨u, _, _, e, q, q2⟩ := R4.row; simp only [Value.agg.injEq, Array.mk.injEq, List.cons.injEq, and_true] at e; obtain ⟨-, rfl, -, -⟩ := e; rcases Nat.eq_zero_or_pos B.orders.length with e3 | e3
       ·
        rw [q.nil e3] at hg; cases hg
       ·
        rw [q2 e3] at hg; exact Or.inl (Or.inl ⟨e3, (Option.some.inj hg).symm⟩)
      have kept : ∀ b, b < W.heap.size → ¬ bookBlocks B K b → wU.heap[b]? = W.heap[b]? := fun b hb hn => (hgU.block b (by rw [z4]; omega) (fun e => hn (pne b e.symm))).trans (S4.block b hb); have y2U : wU.heap[w2.heap.size]? = some (.cells #[.int .i64 B.n, .slice ao2 B.orders.length co2, .slice al2 B.locked.length cl2, .slice ac2 B.occ.length cc2] 37 (0, 0)) := (kept _ zp (fun q => HS.out.np _ q rfl)).trans HS.out.bp; have y3U : wU.heap[w.heap.size + 1 + 1]? = some (.cells #[.int .i64 0, .int .i64 0, .slice none 0 0, .slice none 0 0, .slice none 0 0] 39 (0, 0)) := (kept _ (Array.getElem?_eq_some_iff.1 HS.out.b2).1 (fun q => by have := HS.out.rb.own.blocks_low q; omega)).trans HS.out.b2; have y4U : wU.heap[w.heap.size + 1]? = some (.cells #[.int .i64 E.op, .int .i64 E.of_, .string E.holder, .int .i64 E.kind, .slice ad E.secs.length ca, .string E.text] 32 (0, 0)) := (kept _ zq (fun q => by have := HS.out.rb.own.blocks_low q; omega)).trans HS.out.b1; have lowU : Below w1.heap.size (wS.alloc (.cells #[.string E.holder, .int .i64 E.kind, .slice adS E.secs.length cS, .int .i64 1] 41)) wU := grown_below hgU (fun g hg => (owns_lt hrow hg).1) (by rw [z4]; omega)
      have HU : Hid (OwnBook wU w1.heap.size (.agg #[.int .i64 B.n, .slice adU (B.orders.length + 1) cU, .slice al2 B.locked.length cl2, .slice ac2 B.occ.length cc2]) (addOrd B (eOrd E)) K' ∧ wU.heap[w2.heap.size]? = some (.cells #[.int .i64 B.n, .slice ao2 B.orders.length co2, .slice al2 B.locked.length cl2, .slice ac2 B.occ.length cc2] 37 (0, 0)) ∧ wU.heap[w.heap.size + 1 + 1]? = some (.cells #[.int .i64 0, .int .i64 0, .slice none 0 0, .slice none 0 0, .slice none 0 0] 39 (0, 0)) ∧ Below w.heap.size w wU ∧ (∀ b, bookBlocks (addOrd B (eOrd E)) K' b → b ≠ w2.heap.size)) :=
       ⟨hOwn, y2U, y3U, (HS.out.bw.trans (S4.mono HS.out.bw.size)).trans (lowU.mono (by omega)), fun b hb => by
        rcases hblk b hb with h | ⟨q, h⟩ | h
        · exact HS.out.np b h
        · have := (HY.out.1 q).2.1; omega
        · omega⟩
      have oU : wU.cell? ⟨w2.heap.size, 1, none⟩ = some (.slice ao2 B.orders.length co2) := cell_of_box y2U rfl; have fU : wU.frozen? ⟨w2.heap.size, 1, none⟩ = false := frozen_of_box y2U; have hSU : wU.cell? ⟨w.heap.size + 1, 2, none⟩ = some (.string E.holder) ∧ wU.cell? ⟨w.heap.size + 1, 3, none⟩ = some (.int .i64 E.kind) ∧ wU.cell? ⟨w.heap.size + 1, 4, none⟩ = some (.slice ad E.secs.length ca) := ⟨cell_of_box y4U rfl, cell_of_box y4U rfl, cell_of_box y4U rfl⟩; refine hK.out _ _ hSU (fun hS12 => ?_); clear hK Kx hownU hgU hbU z4 y2U y3U y4U HY S4 R4 n4 oS hrow big hOwn hblk pne kept lowU hSU; refine tk 13 rfl ?_; refine rdy1 14 rfl (fun Kx hK => ?_); go_simp; refine hK.out _ _ ⟨by simp [go_sem, hS12], by simp [go_sem, hS12], by simp [go_sem, hS12]⟩ (fun hS14 => ?_); clear hK Kx; refine wpAnyH_done (by kernel_rfl) ?_ _; go_simp; clear hS0 hS12 hS14 oU fU; go_wp2
      go_meet
      case rel =>
       obtain ⟨t1, t2, t3, t4, t5⟩ := HU.out; refine ⟨by rw [doP_write HK.out HOp.out]; unfold doWrite; rw [if_pos h200], ?_⟩; rw [doP_write HK.out HOp.out]; unfold doWrite; rw [if_pos h200]; exact ⟨_, _, _, _, K', (box_set t2 _).trans rfl, t1.setOther (a := ⟨w2.heap.size, 1, none⟩) t5 _, (box_other (by omega) _).trans t3, below_set t4 _ _ (by omega) _⟩
  by_cases o2 : E.op = 2
  ·
   have T : (E.op == 2) = true := by simpa using o2
   have T1 : (E.op == 1) = false := by simpa using o1
   have HOp : Hid (E.op = 2) := o2; clear o1 o2 hin; have hof := (EvOk.at25 HK.out (Or.inl HOp.out)).1; obtain ⟨m, hmo⟩ : ∃ m : Nat, E.of_ = (m : Int) := ⟨E.of_.toNat, by have := hof.1; omega⟩; have hm : m < B.orders.length := by have := hof.2; omega
   have HM : Hid (E.of_.toNat = m) := by show E.of_.toNat = m; omega
   have hm0 : (0 : Int) ≤ (m : Int) := by omega
   have hm1 : (m : Int) < (B.orders.length : Int) := by omega
   rw [hmo] at e1; have HMo : Hid (E.of_ = (m : Int)) := hmo; clear hof hmo
   go_wp2_with fail
   refine (l2give_any _ B m _ hm HK.out.1 HS.out.gb).mono ?_; rintro e w5 ⟨rfl, hb5⟩; have S5 := HS.out.below hb5; have H5 : Hid (SPre w w5 w1.heap.size w2.heap.size B E ao co al cl ac cc ad ca ao2 co2 al2 cl2 ac2 cc2 K) := S5; obtain ⟨⟨x0, x1, x2, x3, x4⟩, hfz, hG⟩ := ord_facts S5.rb.own hm; have HX4 : Hid (bookBlocks B K K.G) := hG; have fz := hfz (m * 4 + 3)
   have hao2 : ao2 = some ⟨K.G, 0, none⟩ := by
    obtain ⟨_, _, _, _, _, _, ev, h1, -, -⟩ := S5.rb.own.shape; simp only [Value.agg.injEq, Array.mk.injEq, List.cons.injEq, Value.slice.injEq, and_true, true_and] at ev; obtain ⟨⟨rfl, rfl⟩, -, -⟩ := ev; exact h1.head (by omega)
   obtain ⟨g0, g1, g2, g3, g4, g5⟩ := ev_cells S5.b1; rw [HMo.out] at g1; obtain ⟨r0, r1, r2, r3⟩ := box_cells S5.bp; rw [hao2] at r1; clear hb5 S5 x4 hfz hG hao2 e0 e1 e2 e3 e4 e5 m0 m1 m2 m3 p0 p1 p2 p3
   by_cases hg : giveC B m = 0
   ·
    have HGv : Hid (giveC B m = 0) := hg; rw [hg]; clear hg; go_wp2
    go_meet
    case rel => exact ⟨by rw [doP_give HK.out HOp.out, HM.out, doGive_yes HGv.out], by rw [doP_give HK.out HOp.out, HM.out, doGive_yes HGv.out]; exact H5.out.turned (H5.out.rb.own.setState hm 2) (fr_set _ _ HX4.out _)⟩
   ·
    have HGv : Hid (¬ giveC B m = 0) := hg; have t : (giveC B m == 0) = false := by simpa using hg
    clear hg; go_wp2
    go_meet
    case rel => exact ⟨by rw [doP_give HK.out HOp.out, HM.out, doGive_no rfl HGv.out], by rw [doP_give HK.out HOp.out, HM.out, doGive_no rfl HGv.out]; exact H5.out.same⟩
  by_cases o3 : E.op = 3
  ·
   have T : (E.op == 3) = true := by simpa using o3
   have T1 : (E.op == 1) = false := by simpa using o1
   have T2 : (E.op == 2) = false := by simpa using o2
   have HOp : Hid (E.op = 3) := o3; clear o1 o2 o3 hin; have hof := (EvOk.at3 HK.out HOp.out).1; obtain ⟨m, hmo⟩ : ∃ m : Nat, E.of_ = (m : Int) := ⟨E.of_.toNat, by have := hof.1; omega⟩; have hm : m < B.orders.length := by have := hof.2; omega
   have HM : Hid (E.of_.toNat = m) := by show E.of_.toNat = m; omega
   have hm0 : (0 : Int) ≤ (m : Int) := by omega
   have hm1 : (m : Int) < (B.orders.length : Int) := by omega
   rw [hmo] at e1; have HMo : Hid (E.of_ = (m : Int)) := hmo; clear hof hmo; obtain ⟨⟨x0, x1, x2, x3, x4⟩, hfz, hG⟩ := ord_facts HS.out.rb.own hm; have HX4 : Hid (Cells W (K.sa m) (bX B m).secs.length (iV (bX B m).secs) ∧ bookBlocks B K K.G) := ⟨x4, hG⟩; have fz := hfz (m * 4 + 3)
   have hao2 : ao2 = some ⟨K.G, 0, none⟩ := by
    obtain ⟨_, _, _, _, _, _, ev, h1, -, -⟩ := HS.out.rb.own.shape; simp only [Value.agg.injEq, Array.mk.injEq, List.cons.injEq, Value.slice.injEq, and_true, true_and] at ev; obtain ⟨⟨rfl, rfl⟩, -, -⟩ := ev; exact h1.head (by omega)
   rw [hao2] at p1; clear x4 hfz hG hao2
   by_cases s1 : (bX B m).state = 2
   ·
    have t1 : ((bX B m).state != 2) = false := by simp [s1]
    have HS1 : Hid ((bX B m).state = 2) := s1; clear s1
    by_cases s2 : (bX B m).holder = E.holder
    ·
     have t2 := strEq_t s2; have HS2 : Hid ((bX B m).holder = E.holder) := s2; clear s2; go_wp2
     go_region_held3 (fun w' => w'.cell? ⟨K.G, m * 4, none⟩ = some (.string (bX B m).holder) ∧ w'.cell? ⟨w.heap.size + 1, 2, none⟩ = some (.string E.holder)) (go_keep) (fail)
     go_wp2; have zb0 : w.heap.size < W.heap.size := (Array.getElem?_eq_some_iff.1 HS.out.b0).1; have zb1 : w.heap.size + 1 < W.heap.size := (Array.getElem?_eq_some_iff.1 HS.out.b1).1; have HB0 : Hid (Below W.heap.size W W.drew.drew) := (Below.refl _ _).drew.drew
     go_region_held3 (fun w' => w'.cell? ⟨w.heap.size + 1, 5, none⟩ = some (.string E.text) ∧ w'.cell? ⟨w.heap.size, 0, none⟩ = some (.int .i64 B.n) ∧ w'.cell? ⟨w.heap.size, 1, none⟩ = some (.slice ao B.orders.length co) ∧ w'.cell? ⟨w.heap.size, 2, none⟩ = some (.slice al B.locked.length cl) ∧ w'.cell? ⟨w.heap.size, 3, none⟩ = some (.slice ac B.occ.length cc) ∧ w'.cell? ⟨w.heap.size + 1, 1, none⟩ = some (.int .i64 (m : Int))) (go_keep)
      (first | (go_at_call 52; refine (l1text_any _ B m _ hm HK.out.1 (HS.out.gb.below HB0.out)).mono ?_; rintro e w5 ⟨⟨s', rfl, hs'⟩, hb5⟩; have hbR : Below W.heap.size W w5 := below_trans HB0.out HB0.out.size hb5; obtain ⟨hc1, hf1⟩ := bcell hbR; have HTx : Hid (OrdT B m (bl s') ∧ Below W.heap.size W w5) := ⟨hs', hbR⟩; clear hb5 hs' hbR))
     have S5 := HS.out.below HTx.out.2; have H5 : Hid (SPre w w5 w1.heap.size w2.heap.size B E ao co al cl ac cc ad ca ao2 co2 al2 cl2 ac2 cc2 K) := S5; obtain ⟨⟨-, -, -, y3, -⟩, hf2, -⟩ := ord_facts S5.rb.own hm; have g3 := hf2 (m * 4 + 3); clear S5 hf2 hc1 hf1 e0 e1 e2 e3 e4 e5 m0 m1 m2 m3 p0 p1 p2 p3 x0 x1 x2 x3 fz
     by_cases s3 : E.text = s'
     ·
      have HS3 : Hid (OrdT B m (bl E.text)) := by rw [s3]; exact HTx.out.1
      have t3 : (!(E.text.toList == s'.toList)) = false := by rw [strEq_t s3]; rfl
      rw [t3]; clear t3 s3; go_wp2
      go_meet
      case rel => exact ⟨by rw [doP_repeat HK.out HOp.out, HM.out, doRepeat_ok HS1.out HS2.out HS3.out], by rw [doP_repeat HK.out HOp.out, HM.out, doRepeat_ok HS1.out HS2.out HS3.out]; exact H5.out.turned (H5.out.rb.own.setState hm 3) (fr_set _ _ HX4.out.2 _)⟩
     ·
      have HS3 : Hid (¬ OrdT B m (bl E.text)) := fun q => s3 (bl_inj (q.det HTx.out.1)); have t3 : (!(E.text.toList == s'.toList)) = true := by rw [strEq_f s3]; rfl
      rw [t3]; clear t3 s3; go_wp2
      go_meet
      case rel => exact ⟨by rw [doP_repeat HK.out HOp.out, HM.out, doRepeat_text HS1.out HS2.out HS3.out], by rw [doP_repeat HK.out HOp.out, HM.out, doRepeat_text HS1.out HS2.out HS3.out]; exact H5.out.turned (H5.out.rb.own.setState hm 5) (fr_set _ _ HX4.out.2 _)⟩
    ·
     have t2 := strEq_f s2; have HS2 : Hid ((bX B m).holder ≠ E.holder) := s2; clear s2; go_wp2
     go_region_held3 (fun w' => w'.cell? ⟨K.G, m * 4, none⟩ = some (.string (bX B m).holder) ∧ w'.cell? ⟨w.heap.size + 1, 2, none⟩ = some (.string E.holder)) (go_keep) (fail)
     go_wp2
     go_meet
     case rel => exact ⟨by rw [doP_repeat HK.out HOp.out, HM.out, doRepeat_holder HS1.out HS2.out], by rw [doP_repeat HK.out HOp.out, HM.out, doRepeat_holder HS1.out HS2.out]; exact (HS.out.below (Below.refl _ _).drew).same⟩
   ·
    have t1 : ((bX B m).state != 2) = true := by simpa using s1
    have HS1 : Hid ((bX B m).state ≠ 2) := s1; clear s1; go_wp2
    go_meet
    case rel => exact ⟨by rw [doP_repeat HK.out HOp.out, HM.out, doRepeat_state HS1.out], by rw [doP_repeat HK.out HOp.out, HM.out, doRepeat_state HS1.out]; exact HS.out.same⟩
  by_cases o4 : E.op = 4
  ·
   have T : (E.op == 4) = true := by simpa using o4
   have T1 : (E.op == 1) = false := by simpa using o1
   have T2 : (E.op == 2) = false := by simpa using o2
   have T3 : (E.op == 3) = false := by simpa using o3
   have HOp : Hid (E.op = 4) := o4; clear o1 o2 o3 o4 hin; have hof := (EvOk.at4 HK.out HOp.out).1; obtain ⟨m, hmo⟩ : ∃ m : Nat, E.of_ = (m : Int) := ⟨E.of_.toNat, by have := hof.1; omega⟩; have hm : m < B.orders.length := by have := hof.2; omega
   have HM : Hid (E.of_.toNat = m) := by show E.of_.toNat = m; omega
   have hm0 : (0 : Int) ≤ (m : Int) := by omega
   have hm1 : (m : Int) < (B.orders.length : Int) := by omega
   rw [hmo] at e1; have HMo : Hid (E.of_ = (m : Int)) := hmo; clear hof hmo; obtain ⟨⟨x0, x1, x2, x3, x4⟩, hfz, hG⟩ := ord_facts HS.out.rb.own hm; have HX4 : Hid (Cells W (K.sa m) (bX B m).secs.length (iV (bX B m).secs) ∧ bookBlocks B K K.G) := ⟨x4, hG⟩; have fz := hfz (m * 4 + 3)
   have hao2 : ao2 = some ⟨K.G, 0, none⟩ := by
    obtain ⟨_, _, _, _, _, _, ev, h1, -, -⟩ := HS.out.rb.own.shape; simp only [Value.agg.injEq, Array.mk.injEq, List.cons.injEq, Value.slice.injEq, and_true, true_and] at ev; obtain ⟨⟨rfl, rfl⟩, -, -⟩ := ev; exact h1.head (by omega)
   rw [hao2] at p1; clear x4 hfz hG hao2; have GK : K.G ≠ w.heap.size + 1 := by have := HS.out.rb.own.blocks_low HX4.out.2; omega
   by_cases s1 : (bX B m).state = 3
   ·
    have t1 : ((bX B m).state != 3) = false := by simp [s1]
    have HS1 : Hid ((bX B m).state = 3) := s1; clear s1
    by_cases s2 : (bX B m).holder = E.holder
    ·
     have t2 := strEq_t s2; have HS2 : Hid ((bX B m).holder = E.holder) := s2; clear s2; go_wp2
     go_region_held3 (fun w' => w'.cell? ⟨K.G, m * 4, none⟩ = some (.string (bX B m).holder) ∧ w'.cell? ⟨w.heap.size + 1, 2, none⟩ = some (.string E.holder)) (go_keep) (fail)
     go_wp2
     go_meet
     case rel => exact ⟨by rw [doP_back HK.out HOp.out, HM.out]; unfold doBack; rw [if_neg (fun q => q HS1.out), if_neg (fun q => q HS2.out)], by rw [doP_back HK.out HOp.out, HM.out]; unfold doBack; rw [if_neg (fun q => q HS1.out), if_neg (fun q => q HS2.out)]; exact HS.out.turned (HS.out.rb.own.drew.setState hm 4) ((Fr.of_below (Below.refl _ _).drew).setCell (p := ⟨K.G, m * 4 + 3, none⟩) HX4.out.2 _)⟩
    ·
     have t2 := strEq_f s2; have HS2 : Hid ((bX B m).holder ≠ E.holder) := s2; clear s2; go_wp2
     go_region_held3 (fun w' => w'.cell? ⟨K.G, m * 4, none⟩ = some (.string (bX B m).holder) ∧ w'.cell? ⟨w.heap.size + 1, 2, none⟩ = some (.string E.holder)) (go_keep) (fail)
     go_wp2
     go_meet
     case rel => exact ⟨by rw [doP_back HK.out HOp.out, HM.out]; unfold doBack; rw [if_neg (fun q => q HS1.out), if_pos HS2.out], by rw [doP_back HK.out HOp.out, HM.out]; unfold doBack; rw [if_neg (fun q => q HS1.out), if_pos HS2.out]; exact (HS.out.below (Below.refl _ _).drew).same⟩
   ·
    have t1 : ((bX B m).state != 3) = true := by simpa using s1
    have HS1 : Hid ((bX B m).state ≠ 3) := s1; clear s1; go_wp2
    go_meet
    case rel => exact ⟨by rw [doP_back HK.out HOp.out, HM.out]; unfold doBack; rw [if_pos HS1.out], by rw [doP_back HK.out HOp.out, HM.out]; unfold doBack; rw [if_pos HS1.out]; exact HS.out.same⟩
  by_cases o5 : E.op = 5
  ·
   have T : (E.op == 5) = true := by simpa using o5
   have T1 : (E.op == 1) = false := by simpa using o1
   have T2 : (E.op == 2) = false := by simpa using o2
   have T3 : (E.op == 3) = false := by simpa using o3
   have T4 : (E.op == 4) = false := by simpa using o4
   have HOp : Hid (E.op = 5) := o5; clear o1 o2 o3 o4 o5 hin; have hof := (EvOk.at25 HK.out (Or.inr HOp.out)).1; obtain ⟨m, hmo⟩ : ∃ m : Nat, E.of_ = (m : Int) := ⟨E.of_.toNat, by have := hof.1; omega⟩; have hm : m < B.orders.length := by have := hof.2; omega
   have HM : Hid (E.of_.toNat = m) := by show E.of_.toNat = m; omega
   have hm0 : (0 : Int) ≤ (m : Int) := by omega
   have hm1 : (m : Int) < (B.orders.length : Int) := by omega
   rw [hmo] at e1; have HMo : Hid (E.of_ = (m : Int)) := hmo; clear hof hmo; obtain ⟨⟨x0, x1, x2, x3, x4⟩, hfz, hG⟩ := ord_facts HS.out.rb.own hm; have HX4 : Hid (Cells W (K.sa m) (bX B m).secs.length (iV (bX B m).secs) ∧ bookBlocks B K K.G) := ⟨x4, hG⟩; have fz := hfz (m * 4 + 3)
   have hao2 : ao2 = some ⟨K.G, 0, none⟩ := by
    obtain ⟨_, _, _, _, _, _, ev, h1, -, -⟩ := HS.out.rb.own.shape; simp only [Value.agg.injEq, Array.mk.injEq, List.cons.injEq, Value.slice.injEq, and_true, true_and] at ev; obtain ⟨⟨rfl, rfl⟩, -, -⟩ := ev; exact h1.head (by omega)
   rw [hao2] at p1; clear x4 hfz hG hao2
   by_cases s1 : (bX B m).state = 1
   ·
    have t1 : ((bX B m).state != 1) = false := by simp [s1]
    have HS1 : Hid ((bX B m).state = 1) := s1; clear s1; go_wp2
    go_meet
    case rel => exact ⟨by rw [doP_cancel HK.out HOp.out, HM.out]; unfold doCancel; rw [if_neg (fun q => q.1 HS1.out)], by rw [doP_cancel HK.out HOp.out, HM.out]; unfold doCancel; rw [if_neg (fun q => q.1 HS1.out)]; exact HS.out.turned (HS.out.rb.own.setState hm 5) (fr_set _ _ HX4.out.2 _)⟩
   ·
    have t1 : ((bX B m).state != 1) = true := by simpa using s1
    by_cases s2 : (bX B m).state = 2
    ·
     have t2 : ((bX B m).state != 2) = false := by simp [s2]
     have HS1 : Hid ((bX B m).state = 2) := s2; clear s1 s2; go_wp2
     go_meet
     case rel => exact ⟨by rw [doP_cancel HK.out HOp.out, HM.out]; unfold doCancel; rw [if_neg (fun q => q.2 HS1.out)], by rw [doP_cancel HK.out HOp.out, HM.out]; unfold doCancel; rw [if_neg (fun q => q.2 HS1.out)]; exact HS.out.turned (HS.out.rb.own.setState hm 5) (fr_set _ _ HX4.out.2 _)⟩
    ·
     have t2 : ((bX B m).state != 2) = true := by simpa using s2
     have HS1 : Hid ((bX B m).state ≠ 1 ∧ (bX B m).state ≠ 2) := ⟨s1, s2⟩; clear s1 s2; go_wp2
     go_meet
     case rel => exact ⟨by rw [doP_cancel HK.out HOp.out, HM.out]; unfold doCancel; rw [if_pos HS1.out], by rw [doP_cancel HK.out HOp.out, HM.out]; unfold doCancel; rw [if_pos HS1.out]; exact HS.out.same⟩
  by_cases o6 : E.op = 6
  ·
   have T : (E.op == 6) = true := by simpa using o6
   have T1 : (E.op == 1) = false := by simpa using o1
   have T2 : (E.op == 2) = false := by simpa using o2
   have T3 : (E.op == 3) = false := by simpa using o3
   have T4 : (E.op == 4) = false := by simpa using o4
   have T5 : (E.op == 5) = false := by simpa using o5
   have HOp : Hid (E.op = 6) := o6; clear o1 o2 o3 o4 o5 o6 hin; have hof := (EvOk.at6 HK.out (show In E.op 6 9 by rw [HOp.out]; exact ⟨by omega, by omega⟩)).1; obtain ⟨m, hmo⟩ : ∃ m : Nat, E.of_ = (m : Int) := ⟨E.of_.toNat, by have := hof.1; omega⟩; have hm : m < B.locked.length := by have := hof.2; have := HK.out.1.1.2.1; omega
   have HM : Hid (E.of_.toNat = m) := by show E.of_.toNat = m; omega
   have hm0 : (0 : Int) ≤ (m : Int) := by omega
   have hm1 : (m : Int) < (B.locked.length : Int) := by omega
   rw [hmo] at e1; have HMo : Hid (E.of_ = (m : Int)) := hmo; clear hof hmo
   go_wp2_with fail
   refine (specWho_any _ B (m : Int) _ hsm.1 hsm.2 hw HS.out.gb).mono ?_; rintro e w5 ⟨⟨r, rfl, hr⟩, hb5⟩; have S5 := HS.out.below hb5; have H5 : Hid (SPre w w5 w1.heap.size w2.heap.size B E ao co al cl ac cc ad ca ao2 co2 al2 cl2 ac2 cc2 K) := S5; have HWh : Hid (WhoIs B (m : Int) r) := hr
   obtain ⟨l1, l2, ha2⟩ : w5.cell? ⟨K.L, m, none⟩ = some (.bool (B.locked.getD m false)) ∧ w5.frozen? ⟨K.L, m, none⟩ = false ∧ al2 = some ⟨K.L, 0, none⟩ := by
    obtain ⟨_, _, _, _, _, _, ev, -, h2, h3⟩ := S5.rb.own.shape; simp only [Value.agg.injEq, Array.mk.injEq, List.cons.injEq, Value.slice.injEq, and_true, true_and] at ev; obtain ⟨⟨rfl, rfl⟩, ⟨rfl, rfl⟩, ⟨rfl, rfl⟩⟩ := ev; exact ⟨(h2.row (by omega)).cell hm, (h2.row (by omega)).frozen m, h2.head (by omega)⟩
   obtain ⟨g0, g1, g2, g3, g4, g5⟩ := ev_cells S5.b1; rw [HMo.out] at g1; obtain ⟨r0, r1, r2, r3⟩ := box_cells S5.bp; rw [ha2] at r2; clear hb5 S5 hr e0 e1 e2 e3 e4 e5 m0 m1 m2 m3 p0 p1 p2 p3 ha2
   by_cases hr0 : 0 ≤ r
   ·
    have t : decide (0 ≤ r) = true := by simpa using hr0
    have HT : Hid (∃ j, j < B.orders.length ∧ Has (bX B j) (m : Int)) := by
     rcases HWh.out with ⟨_, e⟩ | ⟨_, i, q1, q2, q3⟩ | ⟨_, e, _⟩
     · omega
     · exact ⟨i, q1, q3⟩
     · omega
    clear hr0; go_wp2
    go_meet
    case rel => exact ⟨by rw [doP_lock HK.out HOp.out, HMo.out]; unfold doLock; rw [if_pos HT.out], by rw [doP_lock HK.out HOp.out, HMo.out]; unfold doLock; rw [if_pos HT.out]; exact H5.out.same⟩
   ·
    have t : decide (0 ≤ r) = false := by simpa using hr0
    have HT : Hid (¬ ∃ j, j < B.orders.length ∧ Has (bX B j) (m : Int)) := by
     rcases HWh.out with ⟨q, _⟩ | ⟨_, i, q1, q2, q3⟩ | ⟨_, _, q⟩
     · exact absurd HK.out.1 q
     · omega
     · exact fun ⟨j, j1, j2⟩ => q j j1 j2
    clear hr0; go_wp2
    go_meet
    case rel => exact ⟨by rw [doP_lock HK.out HOp.out, HMo.out]; unfold doLock; rw [if_neg HT.out], by rw [doP_lock HK.out HOp.out, HMo.out]; unfold doLock; rw [if_neg HT.out, Int.toNat_natCast]; exact H5.out.turned (H5.out.rb.own.setLock hm true) (fr_set _ _ (Or.inr (Or.inl ⟨by omega, rfl⟩)) _)⟩
  by_cases o7 : E.op = 7
  ·
   have T : (E.op == 7) = true := by simpa using o7
   have T1 : (E.op == 1) = false := by simpa using o1
   have T2 : (E.op == 2) = false := by simpa using o2
   have T3 : (E.op == 3) = false := by simpa using o3
   have T4 : (E.op == 4) = false := by simpa using o4
   have T5 : (E.op == 5) = false := by simpa using o5
   have T6 : (E.op == 6) = false := by simpa using o6
   have HOp : Hid (E.op = 7) := o7; clear o1 o2 o3 o4 o5 o6 o7 hin; have hof := (EvOk.at6 HK.out (show In E.op 6 9 by rw [HOp.out]; exact ⟨by omega, by omega⟩)).1; obtain ⟨m, hmo⟩ : ∃ m : Nat, E.of_ = (m : Int) := ⟨E.of_.toNat, by have := hof.1; omega⟩; have hm : m < B.locked.length := by have := hof.2; have := HK.out.1.1.2.1; omega
   have HM : Hid (E.of_.toNat = m) := by show E.of_.toNat = m; omega
   have hm0 : (0 : Int) ≤ (m : Int) := by omega
   have hm1 : (m : Int) < (B.locked.length : Int) := by omega
   rw [hmo] at e1; have HMo : Hid (E.of_ = (m : Int)) := hmo; clear hof hmo
   obtain ⟨l1, l2, ha2⟩ : W.cell? ⟨K.L, m, none⟩ = some (.bool (B.locked.getD m false)) ∧ W.frozen? ⟨K.L, m, none⟩ = false ∧ al2 = some ⟨K.L, 0, none⟩ := by
    obtain ⟨_, _, _, _, _, _, ev, -, h2, h3⟩ := HS.out.rb.own.shape; simp only [Value.agg.injEq, Array.mk.injEq, List.cons.injEq, Value.slice.injEq, and_true, true_and] at ev; obtain ⟨⟨rfl, rfl⟩, ⟨rfl, rfl⟩, ⟨rfl, rfl⟩⟩ := ev; exact ⟨(h2.row (by omega)).cell hm, (h2.row (by omega)).frozen m, h2.head (by omega)⟩
   have hbk : bookBlocks B K K.L := Or.inr (Or.inl ⟨by omega, rfl⟩); rw [ha2] at p2; have HBk : Hid (bookBlocks B K K.L) := hbk; clear hbk ha2; go_wp2
   go_meet
   case rel => exact ⟨by rw [doP_unlock HK.out HOp.out], by rw [doP_unlock HK.out HOp.out, HM.out]; exact HS.out.turned (HS.out.rb.own.setLock hm false) (fr_set _ _ HBk.out _)⟩
  by_cases o8 : E.op = 8
  ·
   have T : (E.op == 8) = true := by simpa using o8
   have T1 : (E.op == 1) = false := by simpa using o1
   have T2 : (E.op == 2) = false := by simpa using o2
   have T3 : (E.op == 3) = false := by simpa using o3
   have T4 : (E.op == 4) = false := by simpa using o4
   have T5 : (E.op == 5) = false := by simpa using o5
   have T6 : (E.op == 6) = false := by simpa using o6
   have T7 : (E.op == 7) = false := by simpa using o7
   have HOp : Hid (E.op = 8) := o8; clear o1 o2 o3 o4 o5 o6 o7 o8 hin; have hof := (EvOk.at6 HK.out (show In E.op 6 9 by rw [HOp.out]; exact ⟨by omega, by omega⟩)).1; obtain ⟨m, hmo⟩ : ∃ m : Nat, E.of_ = (m : Int) := ⟨E.of_.toNat, by have := hof.1; omega⟩; have hm : m < B.occ.length := by have := hof.2; have := HK.out.1.1.2.2.1; omega
   have HM : Hid (E.of_.toNat = m) := by show E.of_.toNat = m; omega
   have hm0 : (0 : Int) ≤ (m : Int) := by omega
   have hm1 : (m : Int) < (B.occ.length : Int) := by omega
   rw [hmo] at e1; have HMo : Hid (E.of_ = (m : Int)) := hmo; clear hof hmo
   obtain ⟨l1, l2, ha2⟩ : W.cell? ⟨K.C, m, none⟩ = some (.bool (B.occ.getD m false)) ∧ W.frozen? ⟨K.C, m, none⟩ = false ∧ ac2 = some ⟨K.C, 0, none⟩ := by
    obtain ⟨_, _, _, _, _, _, ev, -, h2, h3⟩ := HS.out.rb.own.shape; simp only [Value.agg.injEq, Array.mk.injEq, List.cons.injEq, Value.slice.injEq, and_true, true_and] at ev; obtain ⟨⟨rfl, rfl⟩, ⟨rfl, rfl⟩, ⟨rfl, rfl⟩⟩ := ev; exact ⟨(h3.row (by omega)).cell hm, (h3.row (by omega)).frozen m, h3.head (by omega)⟩
   have hbk : bookBlocks B K K.C := Or.inr (Or.inr ⟨by omega, rfl⟩); rw [ha2] at p3; have HBk : Hid (bookBlocks B K K.C) := hbk; clear hbk ha2; go_wp2
   go_meet
   case rel => exact ⟨by rw [doP_occ HK.out HOp.out], by rw [doP_occ HK.out HOp.out, HM.out]; exact HS.out.turned (HS.out.rb.own.setOcc hm true) (fr_set _ _ HBk.out _)⟩
  by_cases o9 : E.op = 9
  ·
   have T : (E.op == 9) = true := by simpa using o9
   have T1 : (E.op == 1) = false := by simpa using o1
   have T2 : (E.op == 2) = false := by simpa using o2
   have T3 : (E.op == 3) = false := by simpa using o3
   have T4 : (E.op == 4) = false := by simpa using o4
   have T5 : (E.op == 5) = false := by simpa using o5
   have T6 : (E.op == 6) = false := by simpa using o6
   have T7 : (E.op == 7) = false := by simpa using o7
   have T8 : (E.op == 8) = false := by simpa using o8
   have HOp : Hid (E.op = 9) := o9; clear o1 o2 o3 o4 o5 o6 o7 o8 o9 hin; have hof := (EvOk.at6 HK.out (show In E.op 6 9 by rw [HOp.out]; exact ⟨by omega, by omega⟩)).1; obtain ⟨m, hmo⟩ : ∃ m : Nat, E.of_ = (m : Int) := ⟨E.of_.toNat, by have := hof.1; omega⟩; have hm : m < B.occ.length := by have := hof.2; have := HK.out.1.1.2.2.1; omega
   have HM : Hid (E.of_.toNat = m) := by show E.of_.toNat = m; omega
   have hm0 : (0 : Int) ≤ (m : Int) := by omega
   have hm1 : (m : Int) < (B.occ.length : Int) := by omega
   rw [hmo] at e1; have HMo : Hid (E.of_ = (m : Int)) := hmo; clear hof hmo
   obtain ⟨l1, l2, ha2⟩ : W.cell? ⟨K.C, m, none⟩ = some (.bool (B.occ.getD m false)) ∧ W.frozen? ⟨K.C, m, none⟩ = false ∧ ac2 = some ⟨K.C, 0, none⟩ := by
    obtain ⟨_, _, _, _, _, _, ev, -, h2, h3⟩ := HS.out.rb.own.shape; simp only [Value.agg.injEq, Array.mk.injEq, List.cons.injEq, Value.slice.injEq, and_true, true_and] at ev; obtain ⟨⟨rfl, rfl⟩, ⟨rfl, rfl⟩, ⟨rfl, rfl⟩⟩ := ev; exact ⟨(h3.row (by omega)).cell hm, (h3.row (by omega)).frozen m, h3.head (by omega)⟩
   have hbk : bookBlocks B K K.C := Or.inr (Or.inr ⟨by omega, rfl⟩); rw [ha2] at p3; have HBk : Hid (bookBlocks B K K.C) := hbk; clear hbk ha2; go_wp2
   go_meet
   case rel => exact ⟨by rw [doP_free HK.out HOp.out], by rw [doP_free HK.out HOp.out, HM.out]; exact HS.out.turned (HS.out.rb.own.setOcc hm false) (fr_set _ _ HBk.out _)⟩
  omega
 case rest =>
  obtain ⟨rfl, hmd⟩ := hcut; obtain ⟨a, b, c, d, K', hp, hown, hq, hbw⟩ := hmd; obtain ⟨ao4, co4, al4, cl4, ac4, cc4, hv4, -⟩ := hown.shape; simp only [Value.agg.injEq, Array.mk.injEq, List.cons.injEq, and_true] at hv4; obtain ⟨rfl, rfl, rfl, rfl⟩ := hv4; obtain ⟨p0, p1, p2, p3⟩ := box_cells hp; obtain ⟨q0, q1, q2, q3, q4⟩ : wc.cell? ⟨w.heap.size + 1 + 1, 0, none⟩ = some (.int .i64 0) ∧ wc.cell? ⟨w.heap.size + 1 + 1, 1, none⟩ = some (.int .i64 0) ∧ wc.cell? ⟨w.heap.size + 1 + 1, 2, none⟩ = some (.slice none 0 0) ∧ wc.cell? ⟨w.heap.size + 1 + 1, 3, none⟩ = some (.slice none 0 0) ∧ wc.cell? ⟨w.heap.size + 1 + 1, 4, none⟩ = some (.slice none 0 0) := ⟨cell_of_box hq rfl, cell_of_box hq rfl, cell_of_box hq rfl, cell_of_box hq rfl, cell_of_box hq rfl⟩; have f0 : wc.frozen? ⟨w.heap.size + 1 + 1, 0, none⟩ = false := frozen_of_box hq; have f1 : wc.frozen? ⟨w.heap.size + 1 + 1, 1, none⟩ = false := frozen_of_box hq; have f2 : wc.frozen? ⟨w.heap.size + 1 + 1, 2, none⟩ = false := frozen_of_box hq; have f3 : wc.frozen? ⟨w.heap.size + 1 + 1, 3, none⟩ = false := frozen_of_box hq; have f4 : wc.frozen? ⟨w.heap.size + 1 + 1, 4, none⟩ = false := frozen_of_box hq; have HQ : Hid (OwnBook wc w1.heap.size _ (doP B E).2 K' ∧ Below w.heap.size w wc) := ⟨hown, hbw⟩; clear hp hown hq hbw; go_wp2; refine bodyPost_ret (v := .agg #[.int .i64 (doP B E).1, .int .i64 (doP B E).2.n, .slice ao4 (doP B E).2.orders.length co4, .slice al4 (doP B E).2.locked.length cl4, .slice ac4 (doP B E).2.occ.length cc4]) (by simp [results, Tryz.results22, go_sem, q0, q1, q2, q3, q4]) rfl ⟨_, _, _, _, K', rfl, ?_, ?_⟩
  ·
   refine OwnBook.mono (lo := w1.heap.size) ?_ (by omega); have t3 := HQ.out.1; have lows : ∀ i, ∀ b, bookBlocks (doP B E).2 K' b → b ≠ (⟨w.heap.size + 1 + 1, i, none⟩ : Addr).block := fun i b hb => by have := t3.blocks_low hb; show b ≠ w.heap.size + 1 + 1; omega
   exact ((((t3.setOther (lows 0) _).setOther (lows 1) _).setOther (lows 2) _).setOther (lows 3) _).setOther (lows 4) _
  ·
   have t4 := HQ.out.2
   repeat (refine below_set ?_ _ _ (by omega) _)
   exact t4
end Go.Proofs.YtdlaekjofgbjcaaGreatDoor
