/-
  The contract of impl.give. Mine, by program (wip/ido2.py), by template (wip/gen.py).
-/
import Derived.Test.YteifekoiognhmaaGreatDoorIDo1
import Derived.Deep.RegionHeld3
namespace Go.Proofs.YteifekoiognhmaaGreatDoor
open Go.RowKit

theorem taken_iff {B : Bk} {F : Int → Option Int} (h : Inv (bX B) B.orders.length 0 F) (i : Nat) : Taken B i ↔ ∃ q, q < (bX B i).secs.length ∧ (F (sV (bX B i) q)).isSome = true := by
  constructor
  · rintro ⟨j, hj, ho, a, b, ha, hb, e⟩
    refine ⟨b, hb, ?_⟩
    rw [h.2 (sV (bX B i) b) j ⟨ho, Or.inl ⟨hj, a, ha, e⟩⟩]
    rfl
  · rintro ⟨q, hq, hs⟩
    obtain ⟨u, hu⟩ := Option.isSome_iff_exists.1 hs
    obtain ⟨j, _, ho, hj | ⟨_, a, ha, _⟩⟩ := h.1 _ _ hu
    · obtain ⟨hj, a, ha, e⟩ := hj
      exact ⟨j, hj, ho, a, q, ha, hq, e⟩
    · exact absurd ha (by omega)

theorem OwnBook.drew {w : World} {lo : Nat} {v : Value} {B : Bk} {K : Blk} (h : OwnBook w lo v B K) : OwnBook w.drew lo v B K := h.below (Below.refl _ _).drew
theorem Fr.drew {S : Nat → Prop} {a b : World} (h : Fr S a b) : Fr S a b.drew := h.trans (Fr.of_below (Below.refl _ _).drew)

theorem giveC_state {B : Bk} {i : Nat} (h : (bX B i).state ≠ 1) : giveC B i = 2 := by unfold giveC; rw [if_pos h]
theorem giveC_taken {B : Bk} {i : Nat} (h : (bX B i).state = 1) (t : Taken B i) : giveC B i = 3 := by unfold giveC; rw [if_neg (fun q => q h), if_pos t]
theorem giveC_locked {B : Bk} {i : Nat} (h : (bX B i).state = 1) (t : ¬ Taken B i) (l : Marked B.locked (bX B i)) : giveC B i = 4 := by unfold giveC; rw [if_neg (fun q => q h), if_neg t, if_pos l]
theorem giveC_occ {B : Bk} {i : Nat} (h : (bX B i).state = 1) (t : ¬ Taken B i) (l : ¬ Marked B.locked (bX B i)) (k : (bX B i).kind = 2) (c : Marked B.occ (bX B i)) : giveC B i = 5 := by unfold giveC; rw [if_neg (fun q => q h), if_neg t, if_neg l, if_pos ⟨k, c⟩]
theorem giveC_ok {B : Bk} {i : Nat} (h : (bX B i).state = 1) (t : ¬ Taken B i) (l : ¬ Marked B.locked (bX B i)) (k : ¬ ((bX B i).kind = 2 ∧ Marked B.occ (bX B i))) : giveC B i = 0 := by unfold giveC; rw [if_neg (fun q => q h), if_neg t, if_neg l, if_neg k]
theorem doGive_no {B : Bk} {i : Nat} {c : Int} (h : giveC B i = c) (hc : c ≠ 0) : doGive B i = (c, B) := by unfold doGive; rw [if_neg (by rw [h]; exact hc), h]
theorem doGive_yes {B : Bk} {i : Nat} (h : giveC B i = 0) : doGive B i = (0, setState B i 2) := by unfold doGive; rw [if_pos h]

theorem anyMarked_dec (ac sa : Option Addr) (cc sc : Nat) (bs : List Bool) (x : Ord) (r : Bool) (w : World) (hr : r = true ↔ Marked bs x) (hn : x.secs.length ≤ 4294967296) (hV : ∀ k, k < x.secs.length → 0 ≤ sV x k ∧ sV x k < bs.length) (G1 : Cells w ac bs.length (bV bs)) (G2 : Cells w sa x.secs.length (iV x.secs)) :
    Calls Tryz.prog 47 #[.slice ac bs.length cc, .slice sa x.secs.length sc] w fun e w' => e = .returned (.bool r) ∧ w' = w := by
  refine (anyMarked_any ac sa cc sc bs x w hn hV G1 G2).mono ?_
  rintro e w' ⟨h, rfl⟩
  rcases h.cases with ⟨rfl, hp⟩ | ⟨rfl, hp⟩
  · rw [hr.2 hp]; exact ⟨rfl, rfl⟩
  · cases r with
    | true => exact absurd (hr.1 rfl) hp
    | false => exact ⟨rfl, rfl⟩

set_option maxHeartbeats 8000000 in
theorem give_any (A : Nat → Addr) (v : Value) (B : Bk) (K : Blk) (lo p i : Nat) (w : World) (hE : Errs w A) (h : OwnBook w lo v B K) (hp : BoxAt w p v) (hR : Right B) (hi : i < B.orders.length) :
    Calls Tryz.prog 72 #[.pointer (some ⟨p, 0, none⟩), .int .i64 i] w fun e w' => RetX A e w w' lo v B K (doGive B i) := by
  obtain ⟨ao, co, al, cl, ac, cc, rfl, h1, h2, h3⟩ := h.shape
  obtain ⟨a, b, c, d, e, hbx⟩ := hp
  simp only [Value.agg.injEq, Array.mk.injEq, List.cons.injEq, and_true] at e
  obtain ⟨rfl, rfl, rfl, rfl⟩ := e
  obtain ⟨⟨x0, x1, x2, x3, x4⟩, hf, hG⟩ := ord_facts h hi
  obtain rfl : ao = some ⟨K.G, 0, none⟩ := h1.head (by omega)
  obtain ⟨o0, o1, o2, o3⟩ := box_cells hbx
  have f3 := hf (i * 4 + 3)
  have ho : B.orders.length ≤ 1048576 := by have := hR.1.2.2.2; omega
  have hi0 : (0 : Int) ≤ (i : Int) := by omega
  have hi1 : (i : Int) < (B.orders.length : Int) := by omega
  have hsec : (bX B i).secs.length ≤ 20 := (hR.2.1 i hi).2.2.1.2.2
  have hV : ∀ k, k < (bX B i).secs.length → 0 ≤ sV (bX B i) k ∧ sV (bX B i) k < B.n ∧ sV (bX B i) k < 60 := fun k hk => by
    have h4 := (hR.2.1 i hi).2.2.1.1 k hk
    have h5 := hR.1.1.2
    exact ⟨h4.1, by omega, by omega⟩
  have HH : Hid (OwnBook w lo (.agg #[.int .i64 B.n, .slice (some ⟨K.G, 0, none⟩) B.orders.length co, .slice al B.locked.length cl, .slice ac B.occ.length cc]) B K ∧ Right B ∧ w.heap[p]? = some (.cells #[.int .i64 B.n, .slice (some ⟨K.G, 0, none⟩) B.orders.length co, .slice al B.locked.length cl, .slice ac B.occ.length cc] 37 (0, 0)) ∧ Errs w A ∧ bookBlocks B K K.G ∧ OwnOrds w lo (some ⟨K.G, 0, none⟩) B.orders.length (bX B) K.G K.gs K.sa K.sc ∧ (∀ k, k < (bX B i).secs.length → 0 ≤ sV (bX B i) k ∧ sV (bX B i) k < B.n ∧ sV (bX B i) k < 60)) := ⟨h, hR, hbx, hE, hG, h1, hV⟩
  have v2 : w.cell? ⟨2, 0, none⟩ = some (errV A 2) := hE.v 2 (by omega)
  clear hbx h h1 h2 h3 hE hR x4 hf hG hV
  by_cases s1 : (bX B i).state = 1
  case neg =>
    have t1 : ((bX B i).state != 1) = true := by simpa using s1
    have HS : Hid ((bX B i).state ≠ 1) := s1
    clear s1
    go_enter Tryz.func72, Tryz.ntmps72
    go_wp2
    go_ret
    refine ⟨some 2, rfl, by unfold ErrOk; simp, ?_⟩
    rw [doGive_no (giveC_state HS.out) (by decide)]
    exact ⟨rfl, HH.out.1, Fr.refl _ _⟩
  have t1 : ((bX B i).state != 1) = false := by simp [s1]
  have HS : Hid ((bX B i).state = 1) := s1
  clear s1
  go_enter Tryz.func72, Tryz.ntmps72
  go_wp2_with fail
  refine (sectionOwners_any (some ⟨K.G, 0, none⟩) co B.orders.length (bX B) _ ho (fun j hj => (HH.out.2.1.2.1 j hj).2.2.1.mono HH.out.2.1.1.1.2) ⟨K.G, 0, fun _ => rfl, fun j hj => ⟨K.sa j, K.sc j, by rw [Nat.zero_add]; exact HH.out.2.2.2.2.2.1.ordAt hj⟩⟩).mono ?_
  rintro e w1 ⟨hr, hb⟩
  have H1 := HH.out.1.below hb
  have bx1 := (hb.block _ (Array.getElem?_eq_some_iff.1 HH.out.2.2.1).1).trans HH.out.2.2.1
  have E1 := HH.out.2.2.2.1.below hb
  rcases hr with ⟨gm, m, F, rfl, hgm, hmap, hinv⟩ | ⟨rfl, i', j', hi', hj', hcl⟩
  case inr => exact absurd hcl (HH.out.2.1.2.2.1 i' hi' j' hj')
  obtain ⟨⟨x0, x1, x2, x3, x4⟩, hf, hG⟩ := ord_facts H1 hi
  have HX : Hid (Cells w1 (K.sa i) (bX B i).secs.length (iV (bX B i).secs)) := x4
  obtain ⟨o0, o1, o2, o3⟩ := box_cells bx1
  have f3 := hf (i * 4 + 3)
  have v3 : w1.cell? ⟨3, 0, none⟩ = some (errV A 3) := E1.v 3 (by omega)
  have v5 : w1.cell? ⟨5, 0, none⟩ = some (errV A 5) := E1.v 5 (by omega)
  have v7 : w1.cell? ⟨7, 0, none⟩ = some (errV A 7) := E1.v 7 (by omega)
  have HI : Hid (Inv (bX B) B.orders.length 0 F) := hinv
  have HF : Hid (OwnBook w1 lo (.agg #[.int .i64 B.n, .slice (some ⟨K.G, 0, none⟩) B.orders.length co, .slice al B.locked.length cl, .slice ac B.occ.length cc]) B K ∧ Fr (bookBlocks B K) w w1 ∧ bookBlocks B K K.G) := ⟨H1, Fr.of_below hb, hG⟩
  have HM : Hid (MapIs w1 gm m F) := hmap
  clear hb H1 bx1 E1 hgm hmap hinv x4 hf hG v2
  obtain ⟨n, hn⟩ : ∃ n, n = (bX B i).secs.length := ⟨_, rfl⟩
  have HN : Hid (n = (bX B i).secs.length) := hn
  rw [← hn] at hsec x2
  clear hn
  go_wp2
  obtain ⟨bs, os, hds, gs'⟩ := HX.out
  rw [← HN.out] at hds gs'
  go_loop [37] (fun q => ∃ k : Nat, k ≤ n ∧ q = .int .i64 k ∧ ∀ j, j < k → F (sV (bX B i) j) = none) (fun q => n - (intOf q).toNat)
  case atStart => exact ⟨0, Nat.zero_le _, rfl, fun j hj => absurd hj (by omega)⟩
  case round =>
    obtain ⟨k, hk, rfl, hall⟩ := hrel
    have HA : Hid (∀ j, j < k → F (sV (bX B i) j) = none) := hall
    clear hall
    by_cases hlt : k < n
    · have hsa := hds (by omega)
      rw [hsa] at x2 ⊢
      have e1 : w1.cell? ⟨bs, os + k, none⟩ = some (.int .i64 (sV (bX B i) k)) := gs' k hlt
      have HW : Hid ((Lit.int .i64 (sV (bX B i) k)).wf = true) := WalkArith.wf_i64 (by have := HH.out.2.2.2.2.2.2 k (by rw [← HN.out]; exact hlt); omega)
      clear gs' hds hsa
      cases hF : F (sV (bX B i) k) with
      | some u =>
        have HT : Hid (Taken B i) := (taken_iff HI.out i).2 ⟨k, by rw [← HN.out]; exact hlt, by rw [hF]; rfl⟩
        have e5 : (F (sV (bX B i) k)).isSome = true := by rw [hF]; rfl
        clear hF
        go_wp2_with (at_lookup; refine wpList_look rfl _ _ rfl gm m F rfl HM.out (sV (bX B i) k) rfl HW.out ?_)
        go_ret
        refine ⟨some 3, rfl, by unfold ErrOk; simp, ?_⟩
        rw [doGive_no (giveC_taken HS.out HT.out) (by decide)]
        exact ⟨rfl, HF.out.1, HF.out.2.1⟩
      | none =>
        have HT : Hid (F (sV (bX B i) k) = none) := hF
        have e5 : (F (sV (bX B i) k)).isSome = false := by rw [hF]; rfl
        clear hF
        go_wp2_with (at_lookup; refine wpList_look rfl _ _ rfl gm m F rfl HM.out (sV (bX B i) k) rfl HW.out ?_)
        go_round
        case rel =>
          refine ⟨k + 1, by omega, by go_num, fun j hj => ?_⟩
          by_cases e : j = k
          · subst e; exact HT.out
          · exact HA.out j (by omega)
        case measure => simp [intOf]; omega
    · obtain rfl : k = n := by omega
      have HT : Hid (¬ Taken B i) := fun t => by
        obtain ⟨q, q1, q2⟩ := (taken_iff HI.out i).1 t
        rw [HA.out q (by rw [HN.out]; exact q1)] at q2
        cases q2
      clear gs' hds
      rw [HN.out] at x2 hsec
      have CL : Cells w1 al B.locked.length (bV B.locked) ∧ Cells w1 ac B.occ.length (bV B.occ) := by
        obtain ⟨_, _, _, _, _, _, e, -, q2, q3⟩ := HF.out.1.shape
        simp only [Value.agg.injEq, Array.mk.injEq, List.cons.injEq, Value.slice.injEq, and_true, true_and] at e
        obtain ⟨-, ⟨rfl, rfl⟩, ⟨rfl, rfl⟩⟩ := e
        exact ⟨q2.cells, q3.cells⟩
      have HL : Hid (Cells w1 al B.locked.length (bV B.locked) ∧ Cells w1 ac B.occ.length (bV B.occ)) := CL
      clear CL
      have HVL : Hid (∀ k, k < (bX B i).secs.length → 0 ≤ sV (bX B i) k ∧ sV (bX B i) k < B.locked.length) := fun k hk => by have := HH.out.2.2.2.2.2.2 k hk; have := HH.out.2.1.1.2.1; omega
      have HVC : Hid (∀ k, k < (bX B i).secs.length → 0 ≤ sV (bX B i) k ∧ sV (bX B i) k < B.occ.length) := fun k hk => by have := HH.out.2.2.2.2.2.2 k hk; have := HH.out.2.1.1.2.2.1; omega
      by_cases hmk : Marked B.locked (bX B i)
      · have HMk : Hid (Marked B.locked (bX B i)) := hmk
        clear hmk
        go_wp2
        go_region_held3 (fun w' => w'.cell? ⟨p, 2, none⟩ = some (.slice al B.locked.length cl) ∧ w'.cell? ⟨K.G, i * 4 + 2, none⟩ = some (.slice (K.sa i) (bX B i).secs.length (K.sc i))) (go_keep) (first | (go_at_call 47; refine (anyMarked_dec al (K.sa i) cl (K.sc i) B.locked (bX B i) true _ ⟨fun _ => HMk.out, fun _ => rfl⟩ (by omega) HVL.out (HL.out.1.below (Below.refl _ _).drew) (HX.out.below (Below.refl _ _).drew)).mono ?_; rintro e w' ⟨rfl, rfl⟩))
        go_wp2
        go_ret
        refine ⟨some 5, rfl, by unfold ErrOk; simp, ?_⟩
        rw [doGive_no (giveC_locked HS.out HT.out HMk.out) (by decide)]
        exact ⟨rfl, HF.out.1.drew, HF.out.2.1.drew⟩
      · have HMk : Hid (¬ Marked B.locked (bX B i)) := hmk
        clear hmk
        go_wp2
        go_region_held3 (fun w' => w'.cell? ⟨p, 2, none⟩ = some (.slice al B.locked.length cl) ∧ w'.cell? ⟨K.G, i * 4 + 2, none⟩ = some (.slice (K.sa i) (bX B i).secs.length (K.sc i))) (go_keep) (first | (go_at_call 47; refine (anyMarked_dec al (K.sa i) cl (K.sc i) B.locked (bX B i) false _ ⟨fun e => (by cases e), fun q => absurd q HMk.out⟩ (by omega) HVL.out (HL.out.1.below (Below.refl _ _).drew) (HX.out.below (Below.refl _ _).drew)).mono ?_; rintro e w' ⟨rfl, rfl⟩))
        clear o0 o1 x0 v3 v5
        by_cases hkd : (bX B i).kind = 2
        · have t2 : ((bX B i).kind == 2) = true := by simpa using hkd
          have HKd : Hid ((bX B i).kind = 2) := hkd
          clear hkd
          by_cases hoc : Marked B.occ (bX B i)
          · have HOc : Hid (Marked B.occ (bX B i)) := hoc
            clear hoc
            go_wp2
            refine wp_region_held_drew (S := (fun w' => w'.cell? ⟨K.G, i * 4 + 1, none⟩ = some (.int .i64 (bX B i).kind) ∧ w'.cell? ⟨p, 3, none⟩ = some (.slice ac B.occ.length cc) ∧ w'.cell? ⟨K.G, i * 4 + 2, none⟩ = some (.slice (K.sa i) (bX B i).secs.length (K.sc i)))) (by kernel_rfl) ⟨x1, o3, x2⟩ (fun hS0 => ?_)
            refine wpAnyH_take (i := 0) (v := ?_) rfl (by kernel_rfl) (by kernel_rfl) (by kernel_rfl) (fun _ _ _ h => h) (Or.inl ⟨by kernel_rfl, ?_⟩) (by assumption) ?_
            rotate_left 1
            · (intro w hSw; (try dsimp only at hSw); go_simp; try (with_reducible rfl))
            refine wpAnyH_take (i := 1) (v := ?_) rfl (by kernel_rfl) (by kernel_rfl) (by kernel_rfl) (fun _ _ _ h => h) (Or.inl ⟨by kernel_rfl, ?_⟩) (by assumption) ?_
            rotate_left 1
            · (intro w hSw; (try dsimp only at hSw); go_simp; try (with_reducible rfl))
            refine wpAnyH_take (i := 2) (v := ?_) rfl (by kernel_rfl) (by kernel_rfl) (by kernel_rfl) (fun _ _ _ h => h) (Or.inl ⟨by kernel_rfl, ?_⟩) (by assumption) ?_
            rotate_left 1
            · (intro w hSw; (try dsimp only at hSw); go_simp; try (with_reducible rfl))
            refine wpAnyH_take (i := 3) (v := ?_) rfl (by kernel_rfl) (by kernel_rfl) (by kernel_rfl) (fun _ _ _ h => h) (Or.inl ⟨by kernel_rfl, ?_⟩) (by assumption) ?_
            rotate_left 1
            · (intro w hSw; (try dsimp only at hSw); go_simp; try (with_reducible rfl))
            refine wpAnyH_take (i := 4) (v := ?_) rfl (by kernel_rfl) (by kernel_rfl) (by kernel_rfl) (fun _ _ _ h => h) (Or.inl ⟨by kernel_rfl, ?_⟩) (by assumption) ?_
            rotate_left 1
            · (intro w hSw; (try dsimp only at hSw); go_simp; try (with_reducible rfl))
            refine wpAnyH_take (i := 5) (v := ?_) rfl (by kernel_rfl) (by kernel_rfl) (by kernel_rfl) (fun _ _ _ h => h) (Or.inl ⟨by kernel_rfl, ?_⟩) (by assumption) ?_
            rotate_left 1
            · (intro w hSw; (try dsimp only at hSw); go_simp; try (with_reducible rfl))
            refine wpAnyH_take (i := 6) (v := ?_) rfl (by kernel_rfl) (by kernel_rfl) (by kernel_rfl) (fun _ _ _ h => h) (Or.inl ⟨by kernel_rfl, ?_⟩) (by assumption) ?_
            rotate_left 1
            · (intro w hSw; (try dsimp only at hSw); go_simp; try (with_reducible rfl))
            refine wpAnyH_take (i := 7) (v := ?_) rfl (by kernel_rfl) (by kernel_rfl) (by kernel_rfl) (fun _ _ _ h => h) (Or.inl ⟨by kernel_rfl, ?_⟩) (by assumption) ?_
            rotate_left 1
            · (intro w hSw; (try dsimp only at hSw); go_simp; try (with_reducible rfl))
            refine wpAnyH_take (i := 8) (v := ?_) rfl (by kernel_rfl) (by kernel_rfl) (by kernel_rfl) (fun _ _ _ h => h) (Or.inl ⟨by kernel_rfl, ?_⟩) (by assumption) ?_
            rotate_left 1
            · (intro w hSw; (try dsimp only at hSw); go_simp; try (with_reducible rfl))
            refine wpAnyH_take (i := 9) (v := ?_) rfl (by kernel_rfl) (by kernel_rfl) (by kernel_rfl) (fun _ _ _ h => h) (Or.inl ⟨by kernel_rfl, ?_⟩) (by assumption) ?_
            rotate_left 1
            · (intro w hSw; (try dsimp only at hSw); go_simp; try (with_reducible rfl))
            refine wpAnyH_take (i := 10) (v := ?_) rfl (by kernel_rfl) (by kernel_rfl) (by kernel_rfl) (fun _ _ _ h => h) (Or.inl ⟨by kernel_rfl, ?_⟩) (by assumption) ?_
            rotate_left 1
            · (intro w hSw; (try dsimp only at hSw); go_simp; try (with_reducible rfl))
            refine wpAnyH_take (i := 11) (v := ?_) rfl (by kernel_rfl) (by kernel_rfl) (by kernel_rfl) (fun _ _ _ h => h) (Or.inl ⟨by kernel_rfl, ?_⟩) (by assumption) ?_
            rotate_left 1
            · (intro w hSw; (try dsimp only at hSw); go_simp; try (with_reducible rfl))
            refine wpAnyH_take (i := 12) (v := ?_) rfl (by kernel_rfl) (by kernel_rfl) (by kernel_rfl) (fun _ _ _ h => h) (Or.inl ⟨by kernel_rfl, ?_⟩) (by assumption) ?_
            rotate_left 1
            · (intro w hSw; (try dsimp only at hSw); go_simp; try (with_reducible rfl))
            refine wpAnyH_take (i := 13) (v := ?_) rfl (by kernel_rfl) (by kernel_rfl) (by kernel_rfl) (fun _ _ _ h => h) (Or.inl ⟨by kernel_rfl, ?_⟩) (by assumption) ?_
            rotate_left 1
            · (intro w hSw; (try dsimp only at hSw); go_simp; try (with_reducible rfl))
            refine wpAnyH_ready (rs := [14]) (by kernel_rfl) (by simp) ?_
            refine AllReadyH.cons rfl (fun Kx hK => ?_) (AllReadyH.nil)
            go_simp
            refine (anyMarked_dec ac (K.sa i) cc (K.sc i) B.occ (bX B i) true _ ⟨fun _ => HOc.out, fun _ => rfl⟩ (by omega) HVC.out (HL.out.2.below (Below.refl _ _).drew.drew) (HX.out.below (Below.refl _ _).drew.drew)).mono ?_
            rintro e w' ⟨rfl, rfl⟩
            refine hK.out _ _ hS0 (fun hS1 => ?_)
            clear hK Kx
            refine wpAnyH_take (i := 15) (v := ?_) rfl (by kernel_rfl) (by kernel_rfl) (by kernel_rfl) (fun _ _ _ h => h) (Or.inl ⟨by kernel_rfl, ?_⟩) (by assumption) ?_
            rotate_left 1
            · (intro w hSw; (try dsimp only at hSw); go_simp; try (with_reducible rfl))
            refine wpAnyH_done (by kernel_rfl) ?_ _
            go_simp
            go_wp2
            go_ret
            refine ⟨some 7, rfl, by unfold ErrOk; simp, ?_⟩
            rw [doGive_no (giveC_occ HS.out HT.out HMk.out HKd.out HOc.out) (by decide)]
            exact ⟨rfl, HF.out.1.drew.drew, HF.out.2.1.drew.drew⟩
          · have HOc : Hid (¬ Marked B.occ (bX B i)) := hoc
            clear hoc
            go_wp2
            refine wp_region_held_drew (S := (fun w' => w'.cell? ⟨K.G, i * 4 + 1, none⟩ = some (.int .i64 (bX B i).kind) ∧ w'.cell? ⟨p, 3, none⟩ = some (.slice ac B.occ.length cc) ∧ w'.cell? ⟨K.G, i * 4 + 2, none⟩ = some (.slice (K.sa i) (bX B i).secs.length (K.sc i)))) (by kernel_rfl) ⟨x1, o3, x2⟩ (fun hS0 => ?_)
            refine wpAnyH_take (i := 0) (v := ?_) rfl (by kernel_rfl) (by kernel_rfl) (by kernel_rfl) (fun _ _ _ h => h) (Or.inl ⟨by kernel_rfl, ?_⟩) (by assumption) ?_
            rotate_left 1
            · (intro w hSw; (try dsimp only at hSw); go_simp; try (with_reducible rfl))
            refine wpAnyH_take (i := 1) (v := ?_) rfl (by kernel_rfl) (by kernel_rfl) (by kernel_rfl) (fun _ _ _ h => h) (Or.inl ⟨by kernel_rfl, ?_⟩) (by assumption) ?_
            rotate_left 1
            · (intro w hSw; (try dsimp only at hSw); go_simp; try (with_reducible rfl))
            refine wpAnyH_take (i := 2) (v := ?_) rfl (by kernel_rfl) (by kernel_rfl) (by kernel_rfl) (fun _ _ _ h => h) (Or.inl ⟨by kernel_rfl, ?_⟩) (by assumption) ?_
            rotate_left 1
            · (intro w hSw; (try dsimp only at hSw); go_simp; try (with_reducible rfl))
            refine wpAnyH_take (i := 3) (v := ?_) rfl (by kernel_rfl) (by kernel_rfl) (by kernel_rfl) (fun _ _ _ h => h) (Or.inl ⟨by kernel_rfl, ?_⟩) (by assumption) ?_
            rotate_left 1
            · (intro w hSw; (try dsimp only at hSw); go_simp; try (with_reducible rfl))
            refine wpAnyH_take (i := 4) (v := ?_) rfl (by kernel_rfl) (by kernel_rfl) (by kernel_rfl) (fun _ _ _ h => h) (Or.inl ⟨by kernel_rfl, ?_⟩) (by assumption) ?_
            rotate_left 1
            · (intro w hSw; (try dsimp only at hSw); go_simp; try (with_reducible rfl))
            refine wpAnyH_take (i := 5) (v := ?_) rfl (by kernel_rfl) (by kernel_rfl) (by kernel_rfl) (fun _ _ _ h => h) (Or.inl ⟨by kernel_rfl, ?_⟩) (by assumption) ?_
            rotate_left 1
            · (intro w hSw; (try dsimp only at hSw); go_simp; try (with_reducible rfl))
            refine wpAnyH_take (i := 6) (v := ?_) rfl (by kernel_rfl) (by kernel_rfl) (by kernel_rfl) (fun _ _ _ h => h) (Or.inl ⟨by kernel_rfl, ?_⟩) (by assumption) ?_
            rotate_left 1
            · (intro w hSw; (try dsimp only at hSw); go_simp; try (with_reducible rfl))
            refine wpAnyH_take (i := 7) (v := ?_) rfl (by kernel_rfl) (by kernel_rfl) (by kernel_rfl) (fun _ _ _ h => h) (Or.inl ⟨by kernel_rfl, ?_⟩) (by assumption) ?_
            rotate_left 1
            · (intro w hSw; (try dsimp only at hSw); go_simp; try (with_reducible rfl))
            refine wpAnyH_take (i := 8) (v := ?_) rfl (by kernel_rfl) (by kernel_rfl) (by kernel_rfl) (fun _ _ _ h => h) (Or.inl ⟨by kernel_rfl, ?_⟩) (by assumption) ?_
            rotate_left 1
            · (intro w hSw; (try dsimp only at hSw); go_simp; try (with_reducible rfl))
            refine wpAnyH_take (i := 9) (v := ?_) rfl (by kernel_rfl) (by kernel_rfl) (by kernel_rfl) (fun _ _ _ h => h) (Or.inl ⟨by kernel_rfl, ?_⟩) (by assumption) ?_
            rotate_left 1
            · (intro w hSw; (try dsimp only at hSw); go_simp; try (with_reducible rfl))
            refine wpAnyH_take (i := 10) (v := ?_) rfl (by kernel_rfl) (by kernel_rfl) (by kernel_rfl) (fun _ _ _ h => h) (Or.inl ⟨by kernel_rfl, ?_⟩) (by assumption) ?_
            rotate_left 1
            · (intro w hSw; (try dsimp only at hSw); go_simp; try (with_reducible rfl))
            refine wpAnyH_take (i := 11) (v := ?_) rfl (by kernel_rfl) (by kernel_rfl) (by kernel_rfl) (fun _ _ _ h => h) (Or.inl ⟨by kernel_rfl, ?_⟩) (by assumption) ?_
            rotate_left 1
            · (intro w hSw; (try dsimp only at hSw); go_simp; try (with_reducible rfl))
            refine wpAnyH_take (i := 12) (v := ?_) rfl (by kernel_rfl) (by kernel_rfl) (by kernel_rfl) (fun _ _ _ h => h) (Or.inl ⟨by kernel_rfl, ?_⟩) (by assumption) ?_
            rotate_left 1
            · (intro w hSw; (try dsimp only at hSw); go_simp; try (with_reducible rfl))
            refine wpAnyH_take (i := 13) (v := ?_) rfl (by kernel_rfl) (by kernel_rfl) (by kernel_rfl) (fun _ _ _ h => h) (Or.inl ⟨by kernel_rfl, ?_⟩) (by assumption) ?_
            rotate_left 1
            · (intro w hSw; (try dsimp only at hSw); go_simp; try (with_reducible rfl))
            refine wpAnyH_ready (rs := [14]) (by kernel_rfl) (by simp) ?_
            refine AllReadyH.cons rfl (fun Kx hK => ?_) (AllReadyH.nil)
            go_simp
            refine (anyMarked_dec ac (K.sa i) cc (K.sc i) B.occ (bX B i) false _ ⟨fun e => (by cases e), fun q => absurd q HOc.out⟩ (by omega) HVC.out (HL.out.2.below (Below.refl _ _).drew.drew) (HX.out.below (Below.refl _ _).drew.drew)).mono ?_
            rintro e w' ⟨rfl, rfl⟩
            refine hK.out _ _ hS0 (fun hS1 => ?_)
            clear hK Kx
            refine wpAnyH_take (i := 15) (v := ?_) rfl (by kernel_rfl) (by kernel_rfl) (by kernel_rfl) (fun _ _ _ h => h) (Or.inl ⟨by kernel_rfl, ?_⟩) (by assumption) ?_
            rotate_left 1
            · (intro w hSw; (try dsimp only at hSw); go_simp; try (with_reducible rfl))
            refine wpAnyH_done (by kernel_rfl) ?_ _
            go_simp
            go_wp2
            go_ret
            refine ⟨none, rfl, Or.inl rfl, ?_⟩
            rw [doGive_yes (giveC_ok HS.out HT.out HMk.out (fun q => HOc.out q.2))]
            exact ⟨rfl, HF.out.1.drew.drew.setState hi 2, HF.out.2.1.drew.drew.setCell (p := ⟨K.G, i * 4 + 3, none⟩) HF.out.2.2 _⟩
        · have t2 : ((bX B i).kind == 2) = false := by simpa using hkd
          have HKd : Hid (¬ (bX B i).kind = 2) := hkd
          clear hkd
          go_wp2
          refine wp_region_held_drew (S := (fun w' => w'.cell? ⟨K.G, i * 4 + 1, none⟩ = some (.int .i64 (bX B i).kind) ∧ w'.cell? ⟨p, 3, none⟩ = some (.slice ac B.occ.length cc) ∧ w'.cell? ⟨K.G, i * 4 + 2, none⟩ = some (.slice (K.sa i) (bX B i).secs.length (K.sc i)))) (by kernel_rfl) ⟨x1, o3, x2⟩ (fun hS0 => ?_)
          refine wpAnyH_take (i := 0) (v := ?_) rfl (by kernel_rfl) (by kernel_rfl) (by kernel_rfl) (fun _ _ _ h => h) (Or.inl ⟨by kernel_rfl, ?_⟩) (by assumption) ?_
          rotate_left 1
          · (intro w hSw; (try dsimp only at hSw); go_simp; try (with_reducible rfl))
          refine wpAnyH_take (i := 1) (v := ?_) rfl (by kernel_rfl) (by kernel_rfl) (by kernel_rfl) (fun _ _ _ h => h) (Or.inl ⟨by kernel_rfl, ?_⟩) (by assumption) ?_
          rotate_left 1
          · (intro w hSw; (try dsimp only at hSw); go_simp; try (with_reducible rfl))
          refine wpAnyH_take (i := 2) (v := ?_) rfl (by kernel_rfl) (by kernel_rfl) (by kernel_rfl) (fun _ _ _ h => h) (Or.inl ⟨by kernel_rfl, ?_⟩) (by assumption) ?_
          rotate_left 1
          · (intro w hSw; (try dsimp only at hSw); go_simp; try (with_reducible rfl))
          refine wpAnyH_take (i := 3) (v := ?_) rfl (by kernel_rfl) (by kernel_rfl) (by kernel_rfl) (fun _ _ _ h => h) (Or.inl ⟨by kernel_rfl, ?_⟩) (by assumption) ?_
          rotate_left 1
          · (intro w hSw; (try dsimp only at hSw); go_simp; try (with_reducible rfl))
          refine wpAnyH_take (i := 4) (v := ?_) rfl (by kernel_rfl) (by kernel_rfl) (by kernel_rfl) (fun _ _ _ h => h) (Or.inl ⟨by kernel_rfl, ?_⟩) (by assumption) ?_
          rotate_left 1
          · (intro w hSw; (try dsimp only at hSw); go_simp; try (with_reducible rfl))
          refine wpAnyH_take (i := 5) (v := ?_) rfl (by kernel_rfl) (by kernel_rfl) (by kernel_rfl) (fun _ _ _ h => h) (Or.inl ⟨by kernel_rfl, ?_⟩) (by assumption) ?_
          rotate_left 1
          · (intro w hSw; (try dsimp only at hSw); go_simp; try (with_reducible rfl))
          refine wpAnyH_take (i := 6) (v := undef) rfl (by kernel_rfl) (by kernel_rfl) (by kernel_rfl) (fun _ _ _ h => h) (Or.inr ⟨by kernel_rfl, rfl⟩) (by assumption) ?_
          refine wpAnyH_take (i := 7) (v := undef) rfl (by kernel_rfl) (by kernel_rfl) (by kernel_rfl) (fun _ _ _ h => h) (Or.inr ⟨by kernel_rfl, rfl⟩) (by assumption) ?_
          refine wpAnyH_take (i := 8) (v := undef) rfl (by kernel_rfl) (by kernel_rfl) (by kernel_rfl) (fun _ _ _ h => h) (Or.inr ⟨by kernel_rfl, rfl⟩) (by assumption) ?_
          refine wpAnyH_take (i := 9) (v := undef) rfl (by kernel_rfl) (by kernel_rfl) (by kernel_rfl) (fun _ _ _ h => h) (Or.inr ⟨by kernel_rfl, rfl⟩) (by assumption) ?_
          refine wpAnyH_take (i := 10) (v := undef) rfl (by kernel_rfl) (by kernel_rfl) (by kernel_rfl) (fun _ _ _ h => h) (Or.inr ⟨by kernel_rfl, rfl⟩) (by assumption) ?_
          refine wpAnyH_take (i := 11) (v := undef) rfl (by kernel_rfl) (by kernel_rfl) (by kernel_rfl) (fun _ _ _ h => h) (Or.inr ⟨by kernel_rfl, rfl⟩) (by assumption) ?_
          refine wpAnyH_take (i := 12) (v := undef) rfl (by kernel_rfl) (by kernel_rfl) (by kernel_rfl) (fun _ _ _ h => h) (Or.inr ⟨by kernel_rfl, rfl⟩) (by assumption) ?_
          refine wpAnyH_take (i := 13) (v := undef) rfl (by kernel_rfl) (by kernel_rfl) (by kernel_rfl) (fun _ _ _ h => h) (Or.inr ⟨by kernel_rfl, rfl⟩) (by assumption) ?_
          refine wpAnyH_take (i := 14) (v := undef) rfl (by kernel_rfl) (by kernel_rfl) (by kernel_rfl) (fun _ _ _ h => h) (Or.inr ⟨by kernel_rfl, rfl⟩) (by assumption) ?_
          refine wpAnyH_take (i := 15) (v := ?_) rfl (by kernel_rfl) (by kernel_rfl) (by kernel_rfl) (fun _ _ _ h => h) (Or.inl ⟨by kernel_rfl, ?_⟩) (by assumption) ?_
          rotate_left 1
          · (intro w hSw; (try dsimp only at hSw); go_simp; try (with_reducible rfl))
          refine wpAnyH_done (by kernel_rfl) ?_ _
          go_simp
          go_wp2
          go_ret
          refine ⟨none, rfl, Or.inl rfl, ?_⟩
          rw [doGive_yes (giveC_ok HS.out HT.out HMk.out (fun q => HKd.out q.1))]
          exact ⟨rfl, HF.out.1.drew.drew.setState hi 2, HF.out.2.1.drew.drew.setCell (p := ⟨K.G, i * 4 + 3, none⟩) HF.out.2.2 _⟩

end Go.Proofs.YteifekoiognhmaaGreatDoor
