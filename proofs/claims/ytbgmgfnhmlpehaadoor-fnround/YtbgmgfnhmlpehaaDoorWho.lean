/-
  The contracts of spec.Who, impl.Who. Mine, by template (wip/gen.py).
-/
import Derived.Test.YtbgmgfnhmlpehaaDoorIBook
import Derived.Test.YtbgmgfnhmlpehaaDoorRight
namespace Go.Proofs.YtbgmgfnhmlpehaaDoor
open Go.RowKit

/-- Order i has section s. -/
def Has (x : Ord) (s : Int) : Prop := OpenP x.state ∧ HasS x x.secs.length s

def WhoIs (B : Bk) (s r : Int) : Prop :=
  (¬ Right B ∧ r = -1) ∨ (Right B ∧ ∃ i : Nat, i < B.orders.length ∧ r = i ∧ Has (bX B i) s) ∨ (Right B ∧ r = -1 ∧ ∀ i, i < B.orders.length → ¬ Has (bX B i) s)

theorem WhoIs.det {B : Bk} {s r q : Int} (h : WhoIs B s r) (k : WhoIs B s q) : r = q := by
  rcases h with ⟨h1, h2⟩ | ⟨h1, i, h2, h3, h4⟩ | ⟨h1, h2, h3⟩ <;> rcases k with ⟨k1, k2⟩ | ⟨k1, j, k2, k3, k4⟩ | ⟨k1, k2, k3⟩
  · omega
  · exact absurd k1 h1
  · exact absurd k1 h1
  · exact absurd h1 k1
  · have hij : i = j := by
      obtain ⟨o1, a, a1, a2⟩ := h4
      obtain ⟨o2, b, b1, b2⟩ := k4
      rcases Nat.lt_trichotomy i j with hlt | e | hlt
      · exact absurd ⟨o2, o1, b, a, b1, a1, by rw [a2, b2]⟩ (h1.2.2.1 j k2 i hlt)
      · exact e
      · exact absurd ⟨o1, o2, a, b, a1, b1, by rw [a2, b2]⟩ (h1.2.2.1 i h2 j hlt)
    omega
  · exact absurd h4 (k3 i h2)
  · exact absurd h1 k1
  · exact absurd k4 (h3 j k2)
  · omega

def RetW (e : Ending) (B : Bk) (s : Int) : Prop := ∃ r, e = .returned (.int .i64 r) ∧ WhoIs B s r

theorem one_cell (w : World) (u : Value) (t : TypeId) : Cells (w.alloc (.cells #[u] t)) (some ⟨w.heap.size, 0, none⟩) 1 (fun _ => u) :=
  ⟨w.heap.size, 0, fun _ => rfl, fun i hi => by
    obtain rfl : i = 0 := by omega
    simp [go_sem]⟩

theorem meet_one {n : Nat} {V : Nat → Int} {s : Int} : Meet n 1 V (fun _ => s) ↔ ∃ q, q < n ∧ V q = s :=
  ⟨fun ⟨i, _, h1, _, h3⟩ => ⟨i, h1, h3⟩, fun ⟨i, h1, h3⟩ => ⟨i, 0, h1, by omega, h3⟩⟩

set_option maxHeartbeats 2000000 in
theorem specWho_any (v : Value) (B : Bk) (s : Int) (w : World) (ho : B.orders.length ≤ 1048576) (hs : ∀ i, i < B.orders.length → (bX B i).secs.length ≤ 1048576 ∧ (bX B i).holder.size ≤ 1048576) (hw : -9223372036854775808 ≤ B.n ∧ B.n ≤ 9223372036854775807) (G : BookAt w v B) :
    Calls Tryd.prog 70 #[v, .int .i64 s] w fun e w' => RetW e B s ∧ Below w.heap.size w w' := by
  have G0 := G
  obtain ⟨ao, co, al, cl, ac, cc, rfl, ⟨b, o, hd, g⟩, -⟩ := G
  have g' : ∀ i, i < B.orders.length → ∃ sa sc, OrdAt w b (o + i * 4) (bX B i) sa sc := g
  have HG : Hid (BookAt w (.agg #[.int .i64 B.n, .slice ao B.orders.length co, .slice al B.locked.length cl, .slice ac B.occ.length cc]) B) := G0
  clear G0 g
  go_enter Tryd.func70, Tryd.ntmps70
  go_wp2_with fail
  have B1 := below1 w (.cells #[.int .i64 B.n, .slice ao B.orders.length co, .slice al B.locked.length cl, .slice ac B.occ.length cc] 29)
  refine (specBookOk_any _ B _ ho hs hw (HG.out.below B1)).mono ?_
  rintro e w1 ⟨⟨c, rfl, hc⟩, hb1⟩
  have bx : w1.heap[w.heap.size]? = some (.cells #[.int .i64 B.n, .slice ao B.orders.length co, .slice al B.locked.length cl, .slice ac B.occ.length cc] 29 (0, 0)) := (hb1.block _ (by simp)).trans (Deep.blk_alloc_new _ _)
  have hbw1 : Below w.heap.size w w1 := B1.trans (hb1.mono (by simp))
  have z1 : w.heap.size < w1.heap.size := by have := hb1.size; simp at this; omega
  clear hb1 B1
  by_cases c0 : c = 0
  case neg =>
    have HR : Hid (¬ Right B) := fun r => c0 (hc.right.2 r)
    have t : (c != 0) = true := by simpa using c0
    clear hc bx c0 hd g' hs
    go_wp2
    go_ret
    exact ⟨⟨_, rfl, Or.inl ⟨HR.out, rfl⟩⟩, hbw1⟩
  have HR : Hid (Right B) := hc.right.1 c0
  subst c0
  clear hc
  have cx1 : w1.cell? ⟨w.heap.size, 1, none⟩ = some (.slice ao B.orders.length co) := by simp [World.cell?, bx]
  go_wp2
  clear cx1
  obtain ⟨O, hO⟩ : ∃ O, O = B.orders.length := ⟨_, rfl⟩
  have HO : Hid (O = B.orders.length) := hO
  rw [← hO] at ho hs hd g' ⊢
  clear hO bx
  go_loopw [13] (fun i wr => ∃ k : Nat, k ≤ O ∧ i = .int .i64 k ∧ (∀ j, j < k → ¬ Has (bX B j) s) ∧ Below w1.heap.size w1 wr) (fun i _ => O - (intOf i).toNat)
  case atStart => exact ⟨0, Nat.zero_le _, rfl, fun j hj => absurd hj (by omega), Below.refl _ _⟩
  case round =>
    obtain ⟨k, hk, rfl, hall, hb⟩ := hrel
    have HA : Hid (∀ j, j < k → ¬ Has (bX B j) s) := hall
    have hbw : Below w.heap.size w wr := below_trans hbw1 hbw1.size hb
    clear hall
    by_cases hlt : k < O
    · obtain rfl := hd (by omega)
      obtain ⟨sa, sc, q⟩ := g' k hlt
      have hsk := hs k hlt
      obtain ⟨x0, x1, x2, x3, x4⟩ := q.below hbw
      clear q g' hs hd
      go_wp2_with fail
      refine (l1open_any _ _ _ (bX B k).state _).mono ?_
      rintro e w2 ⟨hr, hb2⟩
      have st : Below wr.heap.size wr w2 := (below1 _ _).trans (hb2.mono (by simp))
      have bx2 : w2.heap[wr.heap.size]? = some (.cells #[.string (bX B k).holder, .int .i64 (bX B k).kind, .slice sa (bX B k).secs.length sc, .int .i64 (bX B k).state] 39 (0, 0)) := (hb2.block _ (by simp)).trans (Deep.blk_alloc_new _ _)
      have hb3 : Below w1.heap.size w1 w2 := below_trans hb hb.size st
      have hbw3 := below_trans hbw1 hbw1.size hb3
      have x5 : Cells w2 sa (bX B k).secs.length (fun i => .int .i64 (sV (bX B k) i)) := x4.below st
      have z2 : wr.heap.size < w2.heap.size := by have := hb2.size; simp at this; omega
      have f2 : w2.cell? ⟨wr.heap.size, 2, none⟩ = some (.slice sa (bX B k).secs.length sc) := by simp [World.cell?, bx2]
      clear hb2 x0 x1 x2 x3 x4 hb hbw st bx2
      rcases hr.cases with ⟨rfl, hp⟩ | ⟨rfl, hp⟩
      · have HP : Hid (OpenP (bX B k).state) := hp
        clear hp hr
        go_wp2_with fail
        have st4 : Below w2.heap.size w2 (w2.alloc (.cells #[.int .i64 s] 3)) := below1 _ _
        have one : Cells (w2.alloc (.cells #[.int .i64 s] 3)) (some ⟨w2.heap.size, 0, none⟩) 1 (fun _ => .int .i64 s) := one_cell _ _ _
        refine (l1meet_any sa (some ⟨w2.heap.size, 0, none⟩) sc 1 _ 1 (sV (bX B k)) (fun _ => s) _ (by omega) (by omega) (x5.below st4) one).mono ?_
        rintro e w5 ⟨hr, rfl⟩
        have hb5 : Below w1.heap.size w1 (w2.alloc (.cells #[.int .i64 s] 3)) := below_trans hb3 hb3.size st4
        have hbw5 := below_trans hbw1 hbw1.size hb5
        clear st4 one x5
        rcases hr.cases with ⟨rfl, hp⟩ | ⟨rfl, hp⟩
        · have HM : Hid (Has (bX B k) s) := ⟨HP.out, meet_one.1 hp⟩
          clear hp hr
          go_wp2
          go_ret
          exact ⟨⟨_, rfl, Or.inr (Or.inl ⟨HR.out, k, by rw [← HO.out]; exact hlt, rfl, HM.out⟩)⟩, hbw5⟩
        · have HM : Hid (¬ Has (bX B k) s) := fun u => hp (meet_one.2 u.2)
          clear hp hr
          go_wp2
          go_roundw
          case rel =>
            refine ⟨k + 1, by omega, by go_num, fun j hj => ?_, hb5⟩
            by_cases e : j = k
            · subst e; exact HM.out
            · exact HA.out j (by omega)
          case measure => simp [intOf]; omega
      · have HM : Hid (¬ Has (bX B k) s) := fun u => hp u.1
        clear hp hr x5
        go_wp2
        go_roundw
        case rel =>
          refine ⟨k + 1, by omega, by go_num, fun j hj => ?_, hb3⟩
          by_cases e : j = k
          · subst e; exact HM.out
          · exact HA.out j (by omega)
        case measure => simp [intOf]; omega
    · obtain rfl : k = O := by omega
      clear g' hs hd
      go_wp2
      go_ret
      exact ⟨⟨_, rfl, Or.inr (Or.inr ⟨HR.out, rfl, fun i hi => HA.out i (by rw [HO.out]; exact hi)⟩)⟩, hbw⟩

theorem whoIs_some {B : Bk} {s v : Int} {F : Int → Option Int} (hr : Right B) (h : Inv (bX B) B.orders.length 0 F) (e : F s = some v) : WhoIs B s v := by
  obtain ⟨i, hv, p1, p2⟩ := h.1 _ _ e
  rcases p2 with ⟨a, b⟩ | ⟨_, q, b, _⟩
  · exact Or.inr (Or.inl ⟨hr, i, a, hv, p1, b⟩)
  · omega

theorem whoIs_none {B : Bk} {s : Int} {F : Int → Option Int} (hr : Right B) (h : Inv (bX B) B.orders.length 0 F) (e : F s = none) : WhoIs B s (-1) :=
  Or.inr (Or.inr ⟨hr, rfl, fun i hi u => by
    have := h.2 s i ⟨u.1, Or.inl ⟨hi, u.2⟩⟩
    rw [e] at this
    cases this⟩)

set_option maxHeartbeats 2000000 in
theorem implWho_any (v : Value) (B : Bk) (s : Int) (w : World) (ho : B.orders.length ≤ 1048576) (hs : ∀ i, i < B.orders.length → (bX B i).secs.length ≤ 1048576 ∧ (bX B i).holder.size ≤ 1048576) (hws : (Lit.int .i64 s).wf = true) (G : BookAt w v B) :
    Calls Tryd.prog 11 #[v, .int .i64 s] w fun e w' => RetW e B s ∧ Below w.heap.size w w' := by
  have G0 := G
  obtain ⟨ao, co, al, cl, ac, cc, rfl, ⟨b, o, hd, g⟩, -⟩ := G
  have g' : ∀ i, i < B.orders.length → ∃ sa sc, OrdAt w b (o + i * 4) (bX B i) sa sc := g
  have HG : Hid (BookAt w (.agg #[.int .i64 B.n, .slice ao B.orders.length co, .slice al B.locked.length cl, .slice ac B.occ.length cc]) B ∧ (Lit.int .i64 s).wf = true) := ⟨G0, hws⟩
  clear G0 g hws
  go_enter Tryd.func11, Tryd.ntmps11
  go_wp2_with fail
  have B1 := below1 w (.cells #[.int .i64 B.n, .slice ao B.orders.length co, .slice al B.locked.length cl, .slice ac B.occ.length cc] 29)
  refine (implBookOk_any _ B _ ho hs (HG.out.1.below B1)).mono ?_
  rintro e w1 ⟨⟨c, rfl, hc⟩, hb1⟩
  have bx : w1.heap[w.heap.size]? = some (.cells #[.int .i64 B.n, .slice ao B.orders.length co, .slice al B.locked.length cl, .slice ac B.occ.length cc] 29 (0, 0)) := (hb1.block _ (by simp)).trans (Deep.blk_alloc_new _ _)
  have hbw1 : Below w.heap.size w w1 := B1.trans (hb1.mono (by simp))
  have z1 : w.heap.size < w1.heap.size := by have := hb1.size; simp at this; omega
  clear hb1 B1
  by_cases c0 : c = 0
  case neg =>
    have HR : Hid (¬ Right B) := fun r => c0 (hc.right.2 r)
    have t : (c != 0) = true := by simpa using c0
    clear hc bx c0 hd g' hs
    go_wp2
    go_ret
    exact ⟨⟨_, rfl, Or.inl ⟨HR.out, rfl⟩⟩, hbw1⟩
  have HR : Hid (Right B) := hc.right.1 c0
  subst c0
  clear hc
  have cx1 : w1.cell? ⟨w.heap.size, 1, none⟩ = some (.slice ao B.orders.length co) := by simp [World.cell?, bx]
  have HK : Hid ((∃ b o, (0 < B.orders.length → ao = some ⟨b, o, none⟩) ∧ ∀ i, i < B.orders.length → ∃ sa sc, OrdAt w1 b (o + i * 4) (bX B i) sa sc) ∧ ∀ i, i < B.orders.length → ListOk (bX B i).secs.length (sV (bX B i)) 60) :=
    ⟨⟨b, o, hd, fun i hi => by obtain ⟨sa, sc, q⟩ := g' i hi; exact ⟨sa, sc, q.below hbw1⟩⟩, fun i hi => (HR.out.2.1 i hi).2.2.1.mono HR.out.1.1.2⟩
  clear hd g' hs bx
  go_wp2_with fail
  refine (sectionOwners_any ao co _ (bX B) _ ho HK.out.2 HK.out.1).mono ?_
  rintro e w2 ⟨hr, hb2⟩
  have hbw2 : Below w.heap.size w w2 := below_trans hbw1 hbw1.size hb2
  clear hb2 cx1 hbw1 HK
  rcases hr with ⟨gm, m, F, rfl, hgm, hmap, hinv⟩ | ⟨rfl, i, j, hi, hj, hc⟩
  · have HI : Hid (Inv (bX B) B.orders.length 0 F) := hinv
    clear hinv
    cases hF : F s with
    | some u =>
      have HF : Hid (F s = some u) := hF
      have e5 : (F s).isSome = true := by rw [hF]; rfl
      have e6 : (F s).getD 0 = u := by rw [hF]; rfl
      clear hF
      go_wp2_with (at_lookup; refine wpList_look rfl _ _ rfl gm m F rfl hmap s rfl HG.out.2 ?_)
      go_ret
      exact ⟨⟨u, rfl, whoIs_some HR.out HI.out HF.out⟩, hbw2⟩
    | none =>
      have HF : Hid (F s = none) := hF
      have e5 : (F s).isSome = false := by rw [hF]; rfl
      have e6 : (F s).getD 0 = 0 := by rw [hF]; rfl
      clear hF
      go_wp2_with (at_lookup; refine wpList_look rfl _ _ rfl gm m F rfl hmap s rfl HG.out.2 ?_)
      go_ret
      exact ⟨⟨-1, rfl, whoIs_none HR.out HI.out HF.out⟩, hbw2⟩
  · exact absurd hc (HR.out.2.2.1 i hi j hj)

end Go.Proofs.YtbgmgfnhmlpehaaDoor
