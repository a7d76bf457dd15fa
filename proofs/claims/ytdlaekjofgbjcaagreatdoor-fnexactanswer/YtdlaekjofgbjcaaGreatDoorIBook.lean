/-
  The contract of impl.BookOk. Mine, by template (wip/gen.py).
-/
import Derived.Test.YtdlaekjofgbjcaaGreatDoorOwners
namespace Go.Proofs.YtdlaekjofgbjcaaGreatDoor
open Go.RowKit
theorem ListOk.mono {n : Nat} {V : Nat → Int} {a b : Int} (h : ListOk n V a) (hab : a ≤ b) : ListOk n V b :=
  ⟨fun i hi => ⟨(h.1 i hi).1, by have := (h.1 i hi).2.1; omega, (h.1 i hi).2.2⟩, h.2⟩
theorem noClash_of {B : Bk} {F : Int → Option Int} (h : Inv (bX B) B.orders.length 0 F) : NoClash B := fun _ hi _ hj => h.alone hi hj
theorem lock_four {B : Bk} {F : Int → Option Int} {j : Nat} {v : Int} (h : Inv (bX B) B.orders.length 0 F) (e : F (j : Int) = some v) (hl : B.locked.getD j false = true) : ¬ NoLock B := by
  obtain ⟨i, _, p1, p2⟩ := h.1 _ _ e
  rcases p2 with ⟨a, q, b, c⟩ | ⟨_, q, b, _⟩
  · intro hn
    refine hn i a ⟨p1, q, b, ?_⟩
    rw [c]
    simpa using hl
  · omega
theorem lock_none {B : Bk} {F : Int → Option Int} (hs : SizesOk B) (ha : AllOrd B) (h : Inv (bX B) B.orders.length 0 F) (hl : ∀ j, j < B.locked.length → ¬ ((F (j : Int)).isSome = true ∧ B.locked.getD j false = true)) : NoLock B := by
  rintro i hi ⟨o1, q, hq, e⟩
  have hb := (ha i hi).2.2.1.1 q hq
  have hL := hs.2.1
  have hF := h.2 (sV (bX B i) q) i ⟨o1, Or.inl ⟨hi, q, hq, rfl⟩⟩
  refine hl (sV (bX B i) q).toNat (by omega) ⟨?_, e⟩
  rw [show (((sV (bX B i) q).toNat : Nat) : Int) = sV (bX B i) q by omega, hF]
  rfl
set_option maxHeartbeats 4000000 in
theorem implBookOk_any (v : Value) (B : Bk) (w : World) (ho : B.orders.length ≤ 1048576) (hs : ∀ i, i < B.orders.length → (bX B i).secs.length ≤ 1048576 ∧ (bX B i).holder.size ≤ 1048576) (G : BookAt w v B) :
    Calls Tryz.prog 11 #[v] w fun e w' => RetC e B ∧ Below w.heap.size w w' := by
  obtain ⟨ao, co, al, cl, ac, cc, rfl, ⟨b, o, hd, g⟩, p2, p3⟩ := G
  have g' : ∀ i, i < B.orders.length → ∃ sa sc, OrdAt w b (o + i * 4) (bX B i) sa sc := g
  clear g p3
  have B1 := below1 w (.cells #[.int .i64 B.n, .slice ao B.orders.length co, .slice al B.locked.length cl, .slice ac B.occ.length cc] 37)
  go_enter Tryz.func11, Tryz.ntmps11
  go_wp2_with fail
  refine (sizesOk_any B ao al ac co cl cc _ (by omega)).mono ?_
  rintro e w1 ⟨hr, hb1⟩
  have bx : w1.heap[w.heap.size]? = some (.cells #[.int .i64 B.n, .slice ao B.orders.length co, .slice al B.locked.length cl, .slice ac B.occ.length cc] 37 (0, 0)) := (hb1.block _ (by simp)).trans (Deep.blk_alloc_new _ _)
  have hbw1 : Below w.heap.size w w1 := B1.trans (hb1.mono (by simp))
  have z1 : w.heap.size < w1.heap.size := by have := hb1.size; simp at this; omega
  clear hb1 B1
  rcases hr.cases with ⟨rfl, hp⟩ | ⟨rfl, hp⟩
  case inr =>
    have HP : Hid (¬ SizesOk B) := hp
    clear hp hr bx
    go_wp2
    go_ret
    exact ⟨RetC.one HP.out, hbw1⟩
  have HS : Hid (SizesOk B) := hp
  clear hp hr
  have cx1 : w1.cell? ⟨w.heap.size, 1, none⟩ = some (.slice ao B.orders.length co) := by simp [World.cell?, bx]
  go_wp2
  clear cx1
  obtain ⟨O, hO⟩ : ∃ O, O = B.orders.length := ⟨_, rfl⟩
  obtain ⟨L, hL⟩ : ∃ L, L = B.locked.length := ⟨_, rfl⟩
  obtain ⟨C, hC⟩ : ∃ C, C = B.occ.length := ⟨_, rfl⟩
  have HO : Hid (O = B.orders.length) := hO
  have HL : Hid (L = B.locked.length) := hL
  rw [← hO, ← hL, ← hC] at bx
  rw [← hO, ← hL, ← hC]
  rw [← hO] at ho hs hd g'
  rw [← hL] at p2
  clear hO hL hC
  go_loopw [17] (fun i wr => ∃ k : Nat, k ≤ O ∧ i = .int .i64 k ∧ (∀ j, j < k → OrdOk (bX B j) B.n) ∧ Below w1.heap.size w1 wr) (fun i _ => O - (intOf i).toNat)
  case atStart => exact ⟨0, Nat.zero_le _, rfl, fun j hj => absurd hj (by omega), Below.refl _ _⟩
  case round =>
    obtain ⟨k, hk, rfl, hall, hb⟩ := hrel
    have HA : Hid (∀ j, j < k → OrdOk (bX B j) B.n) := hall
    have hbw : Below w.heap.size w wr := below_trans hbw1 hbw1.size hb
    have bxr := (hb.block _ z1).trans bx
    clear hall
    by_cases hlt : k < O
    · obtain rfl := hd (by omega)
      obtain ⟨sa, sc, q⟩ := g' k hlt
      have hsk := hs k hlt
      obtain ⟨x0, x1, x2, x3, x4⟩ := q.below hbw
      have c0 : wr.cell? ⟨w.heap.size, 0, none⟩ = some (.int .i64 B.n) := by simp [World.cell?, bxr]
      have zr : w.heap.size < wr.heap.size := Nat.lt_of_lt_of_le z1 hb.size
      clear q g' hs hd p2 bx bxr
      go_wp2_with fail
      refine (orderOk_any (bX B k) sa sc B.n _ (by omega) (by omega) (x4.below (below1 _ _))).mono ?_
      rintro e w2 ⟨hr, hb2⟩
      have hb3 : Below w1.heap.size w1 w2 := (hb.alloc hb.size _).trans (hb2.mono (by have := hb.size; simp; omega))
      have hbw2 : Below w.heap.size w w2 := below_trans hbw1 hbw1.size hb3
      clear hb2 x0 x1 x2 x3 x4 c0 hb hbw
      rcases hr.cases with ⟨rfl, hp⟩ | ⟨rfl, hp⟩
      · have HP : Hid (OrdOk (bX B k) B.n) := hp
        clear hp hr
        go_wp2
        go_roundw
        case rel =>
          refine ⟨k + 1, by omega, by go_num, fun j hj => ?_, hb3⟩
          by_cases e : j = k
          · subst e; exact HP.out
          · exact HA.out j (by omega)
        case measure => simp [intOf]; omega
      · have HP : Hid (¬ OrdOk (bX B k) B.n) := hp
        clear hp hr
        go_wp2
        go_ret
        exact ⟨RetC.two HS.out (fun u => HP.out (u k (by rw [← HO.out]; exact hlt))), hbw2⟩
    · obtain rfl : k = O := by omega
      have HAll : Hid (AllOrd B) := fun i hi => HA.out i (by rw [HO.out]; exact hi)
      have cx1 : wr.cell? ⟨w.heap.size, 1, none⟩ = some (.slice ao k co) := by simp [World.cell?, bxr]
      have zr : w.heap.size < wr.heap.size := Nat.lt_of_lt_of_le z1 hb.size
      have Kx : ∃ b o, (0 < k → ao = some ⟨b, o, none⟩) ∧ ∀ i, i < k → ∃ sa sc, OrdAt wr b (o + i * 4) (bX B i) sa sc := ⟨b, o, hd, fun i hi => by
        obtain ⟨sa, sc, q⟩ := g' i hi
        exact ⟨sa, sc, q.below hbw⟩⟩
      have hl60 : ∀ i, i < k → ListOk (bX B i).secs.length (sV (bX B i)) 60 := fun i hi => (HAll.out i (by rw [← HO.out]; exact hi)).2.2.1.mono HS.out.1.2
      have HB0 : Hid (wr.heap[w.heap.size]? = some (.cells #[.int .i64 B.n, .slice ao k co, .slice al L cl, .slice ac C cc] 37 (0, 0))) := bxr
      have HKx : Hid ((∃ b o, (0 < k → ao = some ⟨b, o, none⟩) ∧ ∀ i, i < k → ∃ sa sc, OrdAt wr b (o + i * 4) (bX B i) sa sc) ∧ ∀ i, i < k → ListOk (bX B i).secs.length (sV (bX B i)) 60) := ⟨Kx, hl60⟩
      clear g' hs hd bx bxr hb Kx hl60 hbw1
      go_wp2_with fail
      refine (sectionOwners_any ao co k (bX B) _ ho HKx.out.2 HKx.out.1).mono ?_
      rintro e w2 ⟨hr, hb2⟩
      have hbw2 : Below w.heap.size w w2 := below_trans hbw hbw.size hb2
      have bx2 : w2.heap[w.heap.size]? = some (.cells #[.int .i64 B.n, .slice ao k co, .slice al L cl, .slice ac C cc] 37 (0, 0)) := (hb2.block _ zr).trans HB0.out
      have zr2 : w.heap.size < w2.heap.size := Nat.lt_of_lt_of_le zr hb2.size
      clear hb2 cx1 hbw HB0 HKx
      rcases hr with ⟨gm, m, F, rfl, hgm, hmap, hinv⟩ | ⟨rfl, i, j, hi, hj, hc⟩
      · have HI : Hid (Inv (bX B) k 0 F) := hinv
        clear hinv
        have cx2 : w2.cell? ⟨w.heap.size, 2, none⟩ = some (.slice al L cl) := by simp [World.cell?, bx2]
        go_wp2
        clear cx2
        obtain ⟨b4, o4, d4, g4⟩ := p2
        have HINV : Hid (Inv (bX B) B.orders.length 0 F) := by have := HI.out; rw [HO.out] at this; exact this
        go_loopw [38] (fun i wx => ∃ l : Nat, l ≤ L ∧ i = .int .i64 l ∧ (∀ j, j < l → ¬ ((F (j : Int)).isSome = true ∧ B.locked.getD j false = true)) ∧ Below w2.heap.size w2 wx) (fun i _ => L - (intOf i).toNat)
        case atStart => exact ⟨0, Nat.zero_le _, rfl, fun j hj => absurd hj (by omega), Below.refl _ _⟩
        case round =>
          obtain ⟨l, hl, rfl, hall, hbx⟩ := hrel
          have HX : Hid (∀ j, j < l → ¬ ((F (j : Int)).isSome = true ∧ B.locked.getD j false = true)) := hall
          have hbwx : Below w.heap.size w wr := below_trans hbw2 hbw2.size hbx
          have hmx := hmap.below hbx
          clear hall
          by_cases hlL : l < L
          · obtain rfl := d4 (by omega)
            have e4 : wr.cell? ⟨b4, o4 + l, none⟩ = some (.bool (B.locked.getD l false)) := (hbwx.cell (p := ⟨b4, o4 + l, none⟩) (World.block_lt_of_cell? _ _ (g4 l hlL))).trans (g4 l hlL)
            have hL60 : L ≤ 60 := by have h1 := HS.out.1.2; have h2 := HS.out.2.1; rw [← HL.out] at h2; omega
            have HW : Hid ((Lit.int .i64 (l : Int)).wf = true) := WalkArith.wf_i64 (by omega)
            obtain ⟨lk, hlk⟩ : ∃ lk, lk = B.locked.getD l false := ⟨_, rfl⟩
            rw [← hlk] at e4
            have HLk : Hid (lk = B.locked.getD l false) := hlk
            clear hlk g4 d4
            cases hF : F (l : Int) with
            | some u =>
              have HF : Hid (F (l : Int) = some u) := hF
              have e5 : (F (l : Int)).isSome = true := by rw [hF]; rfl
              clear hF
              cases lk with
              | true =>
                go_wp2_with (at_lookup; refine wpList_look rfl _ _ rfl gm m F rfl hmx l rfl HW.out ?_)
                go_ret
                exact ⟨RetC.four HS.out HAll.out (noClash_of HINV.out) (lock_four HINV.out HF.out HLk.out.symm), hbwx⟩
              | false =>
                go_wp2_with (at_lookup; refine wpList_look rfl _ _ rfl gm m F rfl hmx l rfl HW.out ?_)
                go_roundw
                case rel =>
                  refine ⟨l + 1, by omega, by go_num, fun j hj => ?_, hbx⟩
                  by_cases e : j = l
                  · subst e; rw [← HLk.out]; exact fun u => by cases u.2
                  · exact HX.out j (by omega)
                case measure => simp [intOf]; omega
            | none =>
              have HF : Hid (F (l : Int) = none) := hF
              have e5 : (F (l : Int)).isSome = false := by rw [hF]; rfl
              clear hF
              go_wp2_with (at_lookup; refine wpList_look rfl _ _ rfl gm m F rfl hmx l rfl HW.out ?_)
              go_roundw
              case rel =>
                refine ⟨l + 1, by omega, by go_num, fun j hj => ?_, hbx⟩
                by_cases e : j = l
                · subst e; rw [HF.out]; exact fun u => by cases u.1
                · exact HX.out j (by omega)
              case measure => simp [intOf]; omega
          · obtain rfl : l = L := by omega
            clear g4 d4
            go_wp2
            go_ret
            exact ⟨RetC.zero HS.out HAll.out (noClash_of HINV.out) (lock_none HS.out HAll.out HINV.out (fun j hj => HX.out j (by rw [HL.out]; exact hj))), hbwx⟩
      · have HC : Hid (¬ NoClash B) := fun u => u i (by rw [← HO.out]; exact hi) j hj hc
        clear hc p2
        go_wp2
        go_ret
        exact ⟨RetC.three HS.out HAll.out HC.out, hbw2⟩
end Go.Proofs.YtdlaekjofgbjcaaGreatDoor