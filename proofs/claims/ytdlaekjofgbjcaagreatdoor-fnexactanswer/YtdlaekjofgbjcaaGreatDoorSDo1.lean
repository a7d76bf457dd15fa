/-
  The contract of spec.l2give. Mine, by template (wip/gen.py).
-/
import Derived.Test.YtdlaekjofgbjcaaGreatDoorEvZ
import Derived.Test.YtdlaekjofgbjcaaGreatDoorSCopy
namespace Go.Proofs.YtdlaekjofgbjcaaGreatDoor
open Go.RowKit
theorem gC_state {B : Bk} {i : Nat} (h : (bX B i).state ≠ 1) : giveC B i = 2 := by unfold giveC; rw [if_pos h]
theorem gC_taken {B : Bk} {i : Nat} (h : (bX B i).state = 1) (t : Taken B i) : giveC B i = 3 := by unfold giveC; rw [if_neg (fun q => q h), if_pos t]
theorem gC_locked {B : Bk} {i : Nat} (h : (bX B i).state = 1) (t : ¬ Taken B i) (l : Marked B.locked (bX B i)) : giveC B i = 4 := by unfold giveC; rw [if_neg (fun q => q h), if_neg t, if_pos l]
theorem gC_occ {B : Bk} {i : Nat} (h : (bX B i).state = 1) (t : ¬ Taken B i) (l : ¬ Marked B.locked (bX B i)) (k : (bX B i).kind = 2) (c : Marked B.occ (bX B i)) : giveC B i = 5 := by unfold giveC; rw [if_neg (fun q => q h), if_neg t, if_neg l, if_pos ⟨k, c⟩]
theorem gC_ok {B : Bk} {i : Nat} (h : (bX B i).state = 1) (t : ¬ Taken B i) (l : ¬ Marked B.locked (bX B i)) (k : ¬ ((bX B i).kind = 2 ∧ Marked B.occ (bX B i))) : giveC B i = 0 := by unfold giveC; rw [if_neg (fun q => q h), if_neg t, if_neg l, if_neg k]
set_option maxHeartbeats 8000000 in
theorem l2give_any (v : Value) (B : Bk) (i : Nat) (w : World) (hi : i < B.orders.length) (hR : Right B) (G : BookAt w v B) :
    Calls Tryz.prog 57 #[v, .int .i64 i] w fun e w' => e = .returned (.int .i64 (giveC B i)) ∧ Below w.heap.size w w' := by
  obtain ⟨ao, co, al, cl, ac, cc, rfl, ⟨b, o, hd, g⟩, CL, CC⟩ := G
  have g' : ∀ j, j < B.orders.length → ∃ sa sc, OrdAt w b (o + j * 4) (bX B j) sa sc := g
  obtain rfl := hd (by omega)
  obtain ⟨si, ci, q⟩ := g' i hi
  have lb : b < w.heap.size := World.block_lt_of_cell? _ _ q.c0
  obtain ⟨x0, x1, x2, x3, x4⟩ := q
  have hO : B.orders.length ≤ 200 := hR.1.2.2.2
  have hi0 : (0 : Int) ≤ (i : Int) := by omega
  have hi1 : (i : Int) < (B.orders.length : Int) := by omega
  have hV : ∀ k, k < (bX B i).secs.length → 0 ≤ sV (bX B i) k ∧ sV (bX B i) k < B.locked.length ∧ sV (bX B i) k < B.occ.length := fun k hk => by
    have h4 := (hR.2.1 i hi).2.2.1.1 k hk
    have h5 := hR.1.2.1
    have h6 := hR.1.2.2.1
    exact ⟨h4.1, by omega, by omega⟩
  have hS : ∀ j, j < B.orders.length → (bX B j).secs.length ≤ 20 := fun j hj => (hR.2.1 j hj).2.2.1.2.2
  have HV : Hid ((∀ k, k < (bX B i).secs.length → 0 ≤ sV (bX B i) k ∧ sV (bX B i) k < B.locked.length ∧ sV (bX B i) k < B.occ.length) ∧ (∀ j, j < B.orders.length → (bX B j).secs.length ≤ 20) ∧ Cells w si (bX B i).secs.length (iV (bX B i).secs) ∧ Cells w al B.locked.length (bV B.locked) ∧ Cells w ac B.occ.length (bV B.occ)) := ⟨hV, hS, x4, CL, CC⟩
  clear g hd hV hS x4 CL CC hR
  have B2 : Below w.heap.size w ((w.alloc (.cells #[.int .i64 B.n, .slice (some ⟨b, o, none⟩) B.orders.length co, .slice al B.locked.length cl, .slice ac B.occ.length cc] 37)).alloc (.cells #[.string (bX B i).holder, .int .i64 (bX B i).kind, .slice si (bX B i).secs.length ci, .int .i64 (bX B i).state] 41)) := below2 _ _ _
  have HF : Hid (∀ W', Below (w.heap.size + 2) ((w.alloc (.cells #[.int .i64 B.n, .slice (some ⟨b, o, none⟩) B.orders.length co, .slice al B.locked.length cl, .slice ac B.occ.length cc] 37)).alloc (.cells #[.string (bX B i).holder, .int .i64 (bX B i).kind, .slice si (bX B i).secs.length ci, .int .i64 (bX B i).state] 41)) W' → W'.heap[w.heap.size]? = some (.cells #[.int .i64 B.n, .slice (some ⟨b, o, none⟩) B.orders.length co, .slice al B.locked.length cl, .slice ac B.occ.length cc] 37 (0, 0)) ∧ W'.heap[w.heap.size + 1]? = some (.cells #[.string (bX B i).holder, .int .i64 (bX B i).kind, .slice si (bX B i).secs.length ci, .int .i64 (bX B i).state] 41 (0, 0)) ∧ Below w.heap.size w W') := by
    intro W' h
    refine ⟨(h.block _ (by omega)).trans ((Deep.blk_alloc_lt _ _ _ (by simp)).trans (Deep.blk_alloc_new _ _)), (h.block _ (by omega)).trans ?_, B2.trans (h.mono (by omega))⟩
    have := Deep.blk_alloc_new (w.alloc (.cells #[.int .i64 B.n, .slice (some ⟨b, o, none⟩) B.orders.length co, .slice al B.locked.length cl, .slice ac B.occ.length cc] 37)) (.cells #[.string (bX B i).holder, .int .i64 (bX B i).kind, .slice si (bX B i).secs.length ci, .int .i64 (bX B i).state] 41)
    simpa using this
  have sz2 : ((w.alloc (.cells #[.int .i64 B.n, .slice (some ⟨b, o, none⟩) B.orders.length co, .slice al B.locked.length cl, .slice ac B.occ.length cc] 37)).alloc (.cells #[.string (bX B i).holder, .int .i64 (bX B i).kind, .slice si (bX B i).secs.length ci, .int .i64 (bX B i).state] 41)).heap.size = w.heap.size + 2 := by simp
  by_cases s1 : (bX B i).state = 1
  case neg =>
    have t1 : ((bX B i).state != 1) = true := by simpa using s1
    have HS : Hid ((bX B i).state ≠ 1) := s1
    clear s1 g'
    go_enter Tryz.func57, Tryz.ntmps57
    go_wp2
    go_ret
    exact ⟨by rw [gC_state HS.out]; rfl, B2⟩
  have t1 : ((bX B i).state != 1) = false := by simp [s1]
  have HS : Hid ((bX B i).state = 1) := s1
  clear s1
  go_enter Tryz.func57, Tryz.ntmps57
  go_wp2
  clear x0 x1 x2 x3
  obtain ⟨O, hOO⟩ : ∃ O, O = B.orders.length := ⟨_, rfl⟩
  have HO : Hid (O = B.orders.length) := hOO
  rw [← hOO] at hO g' hi1 ⊢
  clear hOO
  go_loopw [23] (fun q wr => ∃ k : Nat, k ≤ O ∧ q = .int .i64 k ∧ (∀ j, j < k → ¬ (OpenP (bX B j).state ∧ Meet (bX B j).secs.length (bX B i).secs.length (sV (bX B j)) (sV (bX B i)))) ∧ Below (w.heap.size + 2) ((w.alloc (.cells #[.int .i64 B.n, .slice (some ⟨b, o, none⟩) B.orders.length co, .slice al B.locked.length cl, .slice ac B.occ.length cc] 37)).alloc (.cells #[.string (bX B i).holder, .int .i64 (bX B i).kind, .slice si (bX B i).secs.length ci, .int .i64 (bX B i).state] 41)) wr) (fun q _ => O - (intOf q).toNat)
  case atStart => exact ⟨0, Nat.zero_le _, rfl, fun j hj => absurd hj (by omega), by rw [HO.out]; exact Below.refl _ _⟩
  case round =>
    obtain ⟨k, hk, rfl, hall, hb⟩ := hrel
    have HA : Hid ((∀ j, j < k → ¬ (OpenP (bX B j).state ∧ Meet (bX B j).secs.length (bX B i).secs.length (sV (bX B j)) (sV (bX B i)))) ∧ Below (w.heap.size + 2) ((w.alloc (.cells #[.int .i64 B.n, .slice (some ⟨b, o, none⟩) B.orders.length co, .slice al B.locked.length cl, .slice ac B.occ.length cc] 37)).alloc (.cells #[.string (bX B i).holder, .int .i64 (bX B i).kind, .slice si (bX B i).secs.length ci, .int .i64 (bX B i).state] 41)) wr) := ⟨hall, hb⟩
    obtain ⟨y0, y1, bw⟩ := HF.out wr hb
    have zr : w.heap.size + 2 ≤ wr.heap.size := by have := hb.size; omega
    clear hall hb
    by_cases hlt : k < O
    · obtain ⟨sk, ck, q⟩ := g' k hlt
      obtain ⟨x0, x1, x2, x3, x4⟩ := q.below bw
      have HX : Hid (Cells wr sk (bX B k).secs.length (iV (bX B k).secs) ∧ Cells wr si (bX B i).secs.length (iV (bX B i).secs)) := ⟨x4, HV.out.2.2.1.below bw⟩
      have hsk : (bX B k).secs.length ≤ 20 ∧ (bX B i).secs.length ≤ 20 := ⟨HV.out.2.1 k (by rw [← HO.out]; exact hlt), HV.out.2.1 i hi⟩
      have y1' := (Deep.blk_alloc_lt wr (.cells #[.string (bX B k).holder, .int .i64 (bX B k).kind, .slice sk (bX B k).secs.length ck, .int .i64 (bX B k).state] 41) _ (Array.getElem?_eq_some_iff.1 y1).1).trans y1
      clear q x4
      go_wp2_with fail
      refine (l1open_any _ _ _ (bX B k).state _).mono ?_
      rintro e w2 ⟨hr, hb2⟩
      have szr : (wr.alloc (.cells #[.string (bX B k).holder, .int .i64 (bX B k).kind, .slice sk (bX B k).secs.length ck, .int .i64 (bX B k).state] 41)).heap.size = wr.heap.size + 1 := by simp
      have st : Below wr.heap.size wr w2 := (below1 _ _).trans (hb2.mono (by omega))
      have z2 : w2.heap[wr.heap.size]? = some (.cells #[.string (bX B k).holder, .int .i64 (bX B k).kind, .slice sk (bX B k).secs.length ck, .int .i64 (bX B k).state] 41 (0, 0)) := (hb2.block _ (by omega)).trans (Deep.blk_alloc_new _ _)
      have z3 : w2.heap[w.heap.size + 1]? = some (.cells #[.string (bX B i).holder, .int .i64 (bX B i).kind, .slice si (bX B i).secs.length ci, .int .i64 (bX B i).state] 41 (0, 0)) := (st.block _ (by omega)).trans y1
      have HB2 : Hid (Below (w.heap.size + 2) ((w.alloc (.cells #[.int .i64 B.n, .slice (some ⟨b, o, none⟩) B.orders.length co, .slice al B.locked.length cl, .slice ac B.occ.length cc] 37)).alloc (.cells #[.string (bX B i).holder, .int .i64 (bX B i).kind, .slice si (bX B i).secs.length ci, .int .i64 (bX B i).state] 41)) w2) := HA.out.2.trans (st.mono zr)
      obtain ⟨n0, n1, n2, n3⟩ := box_cells z2
      obtain ⟨p0, p1, p2, p3⟩ := box_cells z3
      have HC : Hid (Cells w2 sk (bX B k).secs.length (iV (bX B k).secs) ∧ Cells w2 si (bX B i).secs.length (iV (bX B i).secs)) := ⟨HX.out.1.below st, HX.out.2.below st⟩
      clear hb2 st szr z2 z3 y0 y1 y1' bw x0 x1 x2 x3 HX g'
      rcases hr.cases with ⟨rfl, hp⟩ | ⟨rfl, hp⟩
      · have HP : Hid (OpenP (bX B k).state) := hp
        clear hp hr
        go_wp2_with fail
        refine (l1meet_any sk si ck ci (bX B k).secs.length (bX B i).secs.length (sV (bX B k)) (sV (bX B i)) _ (by omega) (by omega) HC.out.1 HC.out.2).mono ?_
        rintro e w' ⟨hr, rfl⟩
        rcases hr.cases with ⟨rfl, hp⟩ | ⟨rfl, hp⟩
        · have HM : Hid (Taken B i) := ⟨k, by rw [← HO.out]; exact hlt, HP.out, hp⟩
          clear hp hr
          go_wp2
          go_ret
          exact ⟨by rw [gC_taken HS.out HM.out]; rfl, (HF.out _ HB2.out).2.2⟩
        · have HM : Hid (¬ Meet (bX B k).secs.length (bX B i).secs.length (sV (bX B k)) (sV (bX B i))) := hp
          clear hp hr
          go_wp2
          go_roundw
          case rel =>
            refine ⟨k + 1, by omega, by go_num, fun j hj => ?_, HB2.out⟩
            by_cases e : j = k
            · subst e; exact fun q => HM.out q.2
            · exact HA.out.1 j (by omega)
          case measure => simp [intOf]; omega
      · have HP : Hid (¬ OpenP (bX B k).state) := hp
        clear hp hr
        go_wp2
        go_roundw
        case rel =>
          refine ⟨k + 1, by omega, by go_num, fun j hj => ?_, HB2.out⟩
          by_cases e : j = k
          · subst e; exact fun q => HP.out q.1
          · exact HA.out.1 j (by omega)
        case measure => simp [intOf]; omega
    · obtain rfl : k = O := by omega
      have HT : Hid (¬ Taken B i) := fun ⟨j, hj, ho, hm⟩ => HA.out.1 j (by rw [HO.out]; exact hj) ⟨ho, hm⟩
      have HL : Hid (Cells wr si (bX B i).secs.length (iV (bX B i).secs) ∧ Cells wr al B.locked.length (bV B.locked) ∧ Cells wr ac B.occ.length (bV B.occ) ∧ Below w.heap.size w wr) := ⟨HV.out.2.2.1.below bw, HV.out.2.2.2.1.below bw, HV.out.2.2.2.2.below bw, bw⟩
      obtain ⟨n0, n1, n2, n3⟩ := box_cells y0
      obtain ⟨p0, p1, p2, p3⟩ := box_cells y1
      clear g' y0 y1 bw
      obtain ⟨n, hn⟩ : ∃ n, n = (bX B i).secs.length := ⟨_, rfl⟩
      have HN : Hid (n = (bX B i).secs.length) := hn
      have hn20 : n ≤ 20 := by rw [hn]; exact HV.out.2.1 i hi
      rw [← hn] at p2
      clear hn
      obtain ⟨bs, os, hds, gs⟩ := HL.out.1
      obtain ⟨bL, oL, hdL, gL⟩ := HL.out.2.1
      obtain ⟨bC, oC, hdC, gC⟩ := HL.out.2.2.1
      rw [← HN.out] at hds gs
      have gs' : ∀ k, k < n → ∃ m : Nat, wr.cell? ⟨bs, os + k, none⟩ = some (.int .i64 (m : Int)) ∧ sV (bX B i) k = (m : Int) ∧ m < B.locked.length ∧ m < B.occ.length := fun k hk => by
        have h1 := HV.out.1 k (by rw [← HN.out]; exact hk)
        obtain ⟨m, hm⟩ : ∃ m : Nat, sV (bX B i) k = (m : Int) := ⟨(sV (bX B i) k).toNat, by omega⟩
        exact ⟨m, by rw [← hm]; exact gs k hk, hm, by omega, by omega⟩
      have HGs : Hid (∀ k, k < n → ∃ m : Nat, wr.cell? ⟨bs, os + k, none⟩ = some (.int .i64 (m : Int)) ∧ sV (bX B i) k = (m : Int) ∧ m < B.locked.length ∧ m < B.occ.length) := gs'
      have HGL : Hid ((∀ i, i < B.locked.length → wr.cell? ⟨bL, oL + i, none⟩ = some (bV B.locked i)) ∧ (∀ i, i < B.occ.length → wr.cell? ⟨bC, oC + i, none⟩ = some (bV B.occ i))) := ⟨gL, gC⟩
      clear gs gs' gL gC
      go_wp2
      go_loop [40] (fun q => ∃ k : Nat, k ≤ n ∧ q = .int .i64 k ∧ ¬ MarkedTo B.locked (bX B i) k) (fun q => n - (intOf q).toNat)
      case atStart => exact ⟨0, Nat.zero_le _, rfl, fun ⟨q, h, _⟩ => absurd h (by omega)⟩
      case round =>
        obtain ⟨k2, hk2, rfl, hall⟩ := hrel
        have HK : Hid (¬ MarkedTo B.locked (bX B i) k2) := hall
        clear hall
        by_cases hlt2 : k2 < n
        · have hsi := hds (by omega)
          rw [hsi] at p2 ⊢
          obtain ⟨m, e1, hm, mL, mC⟩ := HGs.out k2 hlt2
          have hal := hdL (by omega)
          rw [hal] at n2
          have HM : Hid (sV (bX B i) k2 = (m : Int)) := hm
          have m0 : (0 : Int) ≤ (m : Int) := by omega
          have m1 : (m : Int) < (B.locked.length : Int) := by omega
          clear hds hdL hdC hm hsi hal
          cases hb : B.locked.getD m false with
          | true =>
            have e2 : wr.cell? ⟨bL, oL + m, none⟩ = some (.bool true) := by rw [← hb]; exact HGL.out.1 m mL
            have HMk : Hid (Marked B.locked (bX B i)) := ⟨k2, by rw [← HN.out]; exact hlt2, by rw [HM.out]; exact hb⟩
            clear hb
            go_wp2
            go_ret
            exact ⟨by rw [gC_locked HS.out HT.out HMk.out]; rfl, HL.out.2.2.2⟩
          | false =>
            have e2 : wr.cell? ⟨bL, oL + m, none⟩ = some (.bool false) := by rw [← hb]; exact HGL.out.1 m mL
            have HMk : Hid (¬ MarkedTo B.locked (bX B i) (k2 + 1)) := fun ⟨q, h1, h2⟩ => by
              by_cases c : q = k2
              · subst c
                rw [HM.out] at h2
                have h3 : B.locked.getD m false = true := h2
                rw [hb] at h3
                cases h3
              · exact HK.out ⟨q, by omega, h2⟩
            clear hb
            go_wp2
            go_round
            case rel => exact ⟨k2 + 1, by omega, by go_num, HMk.out⟩
            case measure => simp [intOf]; omega
        · obtain rfl : k2 = n := by omega
          have HML : Hid (¬ Marked B.locked (bX B i)) := by have := HK.out; rw [HN.out] at this; exact this
          clear hdL
          by_cases hkd : (bX B i).kind = 2
          · have t2 : ((bX B i).kind == 2) = true := by simpa using hkd
            have HKd : Hid ((bX B i).kind = 2) := hkd
            clear hkd
            go_wp2
            go_loop [53] (fun q => ∃ k : Nat, k ≤ k2 ∧ q = .int .i64 k ∧ ¬ MarkedTo B.occ (bX B i) k) (fun q => k2 - (intOf q).toNat)
            case atStart => exact ⟨0, Nat.zero_le _, rfl, fun ⟨q, h, _⟩ => absurd h (by omega)⟩
            case round =>
              obtain ⟨k3, hk3, rfl, hall⟩ := hrel
              have HK3 : Hid (¬ MarkedTo B.occ (bX B i) k3) := hall
              clear hall
              by_cases hlt3 : k3 < k2
              · have hsi := hds (by omega)
                rw [hsi] at p2 ⊢
                obtain ⟨m, e1, hm, mL, mC⟩ := HGs.out k3 hlt3
                have hac := hdC (by omega)
                rw [hac] at n3
                have HM : Hid (sV (bX B i) k3 = (m : Int)) := hm
                have m0 : (0 : Int) ≤ (m : Int) := by omega
                have m1 : (m : Int) < (B.occ.length : Int) := by omega
                clear hds hdC hm hsi hac
                cases hb : B.occ.getD m false with
                | true =>
                  have e2 : wr.cell? ⟨bC, oC + m, none⟩ = some (.bool true) := by rw [← hb]; exact HGL.out.2 m mC
                  have HMk : Hid (Marked B.occ (bX B i)) := ⟨k3, by rw [← HN.out]; exact hlt3, by rw [HM.out]; exact hb⟩
                  clear hb
                  go_wp2
                  go_ret
                  exact ⟨by rw [gC_occ HS.out HT.out HML.out HKd.out HMk.out]; rfl, HL.out.2.2.2⟩
                | false =>
                  have e2 : wr.cell? ⟨bC, oC + m, none⟩ = some (.bool false) := by rw [← hb]; exact HGL.out.2 m mC
                  have HMk : Hid (¬ MarkedTo B.occ (bX B i) (k3 + 1)) := fun ⟨q, h1, h2⟩ => by
                    by_cases c : q = k3
                    · subst c
                      rw [HM.out] at h2
                      have h3 : B.occ.getD m false = true := h2
                      rw [hb] at h3
                      cases h3
                    · exact HK3.out ⟨q, by omega, h2⟩
                  clear hb
                  go_wp2
                  go_round
                  case rel => exact ⟨k3 + 1, by omega, by go_num, HMk.out⟩
                  case measure => simp [intOf]; omega
              · obtain rfl : k3 = k2 := by omega
                have HMC : Hid (¬ Marked B.occ (bX B i)) := by have := HK3.out; rw [HN.out] at this; exact this
                clear hds hdC
                go_wp2
                go_ret
                exact ⟨by rw [gC_ok HS.out HT.out HML.out (fun q => HMC.out q.2)]; rfl, HL.out.2.2.2⟩
          · have t2 : ((bX B i).kind == 2) = false := by simpa using hkd
            have HKd : Hid (¬ (bX B i).kind = 2) := hkd
            clear hkd
            go_wp2
            go_loop [53] (fun q => ∃ k : Nat, k ≤ k2 ∧ q = .int .i64 k) (fun q => k2 - (intOf q).toNat)
            case atStart => exact ⟨0, Nat.zero_le _, rfl⟩
            case round =>
              obtain ⟨k3, hk3, rfl⟩ := hrel
              by_cases hlt3 : k3 < k2
              · have hsi := hds (by omega)
                rw [hsi] at p2 ⊢
                obtain ⟨m, e1, hm, mL, mC⟩ := HGs.out k3 hlt3
                have hac := hdC (by omega)
                rw [hac] at n3
                have m0 : (0 : Int) ≤ (m : Int) := by omega
                have m1 : (m : Int) < (B.occ.length : Int) := by omega
                clear hds hdC hm hsi hac
                cases hb : B.occ.getD m false with
                | true =>
                  have e2 : wr.cell? ⟨bC, oC + m, none⟩ = some (.bool true) := by rw [← hb]; exact HGL.out.2 m mC
                  clear hb
                  go_wp2
                  go_round
                  case rel => exact ⟨k3 + 1, by omega, by go_num⟩
                  case measure => simp [intOf]; omega
                | false =>
                  have e2 : wr.cell? ⟨bC, oC + m, none⟩ = some (.bool false) := by rw [← hb]; exact HGL.out.2 m mC
                  clear hb
                  go_wp2
                  go_round
                  case rel => exact ⟨k3 + 1, by omega, by go_num⟩
                  case measure => simp [intOf]; omega
              · obtain rfl : k3 = k2 := by omega
                clear hds hdC
                go_wp2
                go_ret
                exact ⟨by rw [gC_ok HS.out HT.out HML.out (fun q => HKd.out q.1)]; rfl, HL.out.2.2.2⟩
end Go.Proofs.YtdlaekjofgbjcaaGreatDoor