/-
  The contract of impl.sectionOwners. Mine, by template (wip/gen.py).
-/
import Derived.Test.YtdlaekjofgbjcaaGreatDoorMap
import Derived.Test.YtdlaekjofgbjcaaGreatDoorSBook
namespace Go.Proofs.YtdlaekjofgbjcaaGreatDoor
open Go.RowKit
def HasS (x : Ord) (l : Nat) (s : Int) : Prop := ∃ q, q < l ∧ sV x q = s
def OwnP (X : Nat → Ord) (k l i : Nat) (s : Int) : Prop := OpenP (X i).state ∧ ((i < k ∧ HasS (X i) (X i).secs.length s) ∨ (i = k ∧ HasS (X k) l s))
def Inv (X : Nat → Ord) (k l : Nat) (F : Int → Option Int) : Prop := (∀ s v, F s = some v → ∃ i : Nat, v = (i : Int) ∧ OwnP X k l i s) ∧ ∀ s (i : Nat), OwnP X k l i s → F s = some (i : Int)
theorem Inv.start (X : Nat → Ord) : Inv X 0 0 (fun _ => none) :=
  ⟨fun _ _ h => (by cases h), fun _ _ h => by
    rcases h.2 with ⟨h1, _⟩ | ⟨_, q, h1, _⟩
    · omega
    · omega⟩
theorem Inv.skip {X : Nat → Ord} {k : Nat} {F : Int → Option Int} (h : Inv X k 0 F) (ho : ¬ OpenP (X k).state) : Inv X (k + 1) 0 F := by
  refine ⟨fun s v e => ?_, fun s i p => ?_⟩
  · obtain ⟨i, rfl, p1, p2⟩ := h.1 s v e
    refine ⟨i, rfl, p1, ?_⟩
    rcases p2 with ⟨a, b⟩ | ⟨_, q, a, _⟩
    · exact Or.inl ⟨by omega, b⟩
    · omega
  · refine h.2 s i ⟨p.1, ?_⟩
    rcases p.2 with ⟨a, b⟩ | ⟨_, q, a, _⟩
    · by_cases e : i = k
      · subst e; exact absurd p.1 ho
      · exact Or.inl ⟨by omega, b⟩
    · omega
theorem Inv.done {X : Nat → Ord} {k : Nat} {F : Int → Option Int} (h : Inv X k (X k).secs.length F) : Inv X (k + 1) 0 F := by
  refine ⟨fun s v e => ?_, fun s i p => ?_⟩
  · obtain ⟨i, rfl, p1, p2⟩ := h.1 s v e
    refine ⟨i, rfl, p1, ?_⟩
    rcases p2 with ⟨a, b⟩ | ⟨rfl, b⟩
    · exact Or.inl ⟨by omega, b⟩
    · exact Or.inl ⟨by omega, b⟩
  · refine h.2 s i ⟨p.1, ?_⟩
    rcases p.2 with ⟨a, b⟩ | ⟨_, q, a, _⟩
    · by_cases e : i = k
      · subst e; exact Or.inr ⟨rfl, b⟩
      · exact Or.inl ⟨by omega, b⟩
    · omega
theorem Inv.store {X : Nat → Ord} {k l : Nat} {F : Int → Option Int} (h : Inv X k l F) (ho : OpenP (X k).state) (hn : F (sV (X k) l) = none) : Inv X k (l + 1) (fun t => if t = sV (X k) l then some (k : Int) else F t) := by
  refine ⟨fun s v e => ?_, fun s i p => ?_⟩
  · by_cases es : s = sV (X k) l
    · simp only [if_pos es] at e
      injection e with e
      exact ⟨k, e.symm, ho, Or.inr ⟨rfl, l, by omega, es.symm⟩⟩
    · simp only [if_neg es] at e
      obtain ⟨i, rfl, p1, p2⟩ := h.1 s v e
      refine ⟨i, rfl, p1, ?_⟩
      rcases p2 with a | ⟨a, q, b, c⟩
      · exact Or.inl a
      · exact Or.inr ⟨a, q, by omega, c⟩
  · by_cases es : s = sV (X k) l
    · simp only [if_pos es]
      rcases p.2 with ⟨a, b⟩ | ⟨a, _⟩
      · have := h.2 s i ⟨p.1, Or.inl ⟨a, b⟩⟩
        rw [es, hn] at this
        cases this
      · rw [a]
    · simp only [if_neg es]
      refine h.2 s i ⟨p.1, ?_⟩
      rcases p.2 with a | ⟨a, q, b, c⟩
      · exact Or.inl a
      · refine Or.inr ⟨a, q, ?_, c⟩
        by_cases e : q = l
        · subst e; exact absurd c.symm es
        · omega
theorem asc_inj {n : Nat} {V : Nat → Int} {lim : Int} (h : ListOk n V lim) : ∀ d i, i + d + 1 < n + 1 → i + d < n → 0 < d → V i < V (i + d) := by
  intro d
  induction d with
  | zero => intro i _ _ h0; omega
  | succ d ih =>
    intro i _ h2 _
    have s1 := (h.1 (i + (d + 1)) h2).2.2 (by omega)
    have e : i + (d + 1) - 1 = i + d := by omega
    rw [e] at s1
    by_cases hd : d = 0
    · subst hd; exact s1
    · have := ih i (by omega) (by omega) (by omega); omega
theorem Inv.clash {X : Nat → Ord} {k l : Nat} {F : Int → Option Int} {lim : Int} {v : Int} (h : Inv X k l F) (ho : OpenP (X k).state) (hl : l < (X k).secs.length) (hk : ListOk (X k).secs.length (sV (X k)) lim) (e : F (sV (X k) l) = some v) : ∃ j, j < k ∧ Clash (X k) (X j) := by
  obtain ⟨i, _, p1, p2⟩ := h.1 _ _ e
  rcases p2 with ⟨a, q, b, c⟩ | ⟨rfl, q, b, c⟩
  · exact ⟨i, a, ho, p1, l, q, hl, b, c.symm⟩
  · have := asc_inj hk (l - q) q (by omega) (by omega) (by omega)
    rw [show q + (l - q) = l by omega] at this
    omega
theorem Inv.alone {X : Nat → Ord} {n : Nat} {F : Int → Option Int} (h : Inv X n 0 F) {i j : Nat} (hi : i < n) (hj : j < i) : ¬ Clash (X i) (X j) := by
  rintro ⟨o1, o2, a, b, ha, hb, e⟩
  have e1 := h.2 (sV (X i) a) i ⟨o1, Or.inl ⟨hi, a, ha, rfl⟩⟩
  have e2 := h.2 (sV (X i) a) j ⟨o2, Or.inl ⟨by omega, b, hb, e.symm⟩⟩
  rw [e1] at e2
  injection e2 with e2
  omega
def RetOwn (e : Ending) (lo : Nat) (w' : World) (n : Nat) (X : Nat → Ord) : Prop :=
  (∃ g m F, e = .returned (.tuple #[.map (some g), .bool true]) ∧ lo ≤ g ∧ MapIs w' g m F ∧ Inv X n 0 F) ∨
  (e = .returned (.tuple #[.map none, .bool false]) ∧ ∃ i j, i < n ∧ j < i ∧ Clash (X i) (X j))
set_option maxHeartbeats 2000000 in
theorem sectionOwners_any (ad : Option Addr) (c n : Nat) (X : Nat → Ord) (w : World) (hn : n ≤ 1048576) (hl : ∀ i, i < n → ListOk (X i).secs.length (sV (X i)) 60)
    (K : ∃ b o, (0 < n → ad = some ⟨b, o, none⟩) ∧ ∀ i, i < n → ∃ sa sc, OrdAt w b (o + i * 4) (X i) sa sc) :
    Calls Tryz.prog 32 #[.slice ad n c] w fun e w' => RetOwn e w.heap.size w' n X ∧ Below w.heap.size w w' := by
  obtain ⟨b, o, hd, g⟩ := K
  have hmm := @run_makeMap Tryz.prog
  go_enter Tryz.func32, Tryz.ntmps32
  go_wp2
  clear hmm
  go_loopw [14] (fun i wr => ∃ (k m : Nat) (F : Int → Option Int), k ≤ n ∧ i = .int .i64 k ∧ m ≤ k * 20 ∧ MapIs wr w.heap.size m F ∧ Inv X k 0 F ∧ Below w.heap.size w wr) (fun i _ => n - (intOf i).toNat)
  case atStart => exact ⟨0, 0, _, Nat.zero_le _, rfl, Nat.le_refl _, MapIs.made w, Inv.start X, below1 _ _⟩
  case round =>
    obtain ⟨k, m, F, hk, rfl, hm, hmap, hinv, hb⟩ := hrel
    have HI : Hid (MapIs wr w.heap.size m F ∧ Inv X k 0 F) := ⟨hmap, hinv⟩
    have zb : w.heap.size < wr.heap.size := hmap.lt
    clear hmap hinv
    by_cases hlt : k < n
    · obtain rfl := hd (by omega)
      obtain ⟨sa, sc, q⟩ := g k hlt
      obtain ⟨x0, x1, x2, x3, x4⟩ := q.below hb
      have hlk := hl k hlt
      have hlen : (X k).secs.length ≤ 20 := hlk.2.2
      have HL : Hid (ListOk (X k).secs.length (sV (X k)) 60) := hlk
      have x5 : Cells w sa (X k).secs.length (fun i => .int .i64 (sV (X k) i)) := q.secs
      clear q hlk
      go_wp2_with fail
      refine (isOpen_any _ _ _ (X k).state _).mono ?_
      rintro e w1 ⟨hr, hb1⟩
      have st : Below wr.heap.size wr w1 := (below1 _ _).trans (hb1.mono (by simp))
      have hbw1 : Below w.heap.size w w1 := below_trans hb hb.size st
      have bx : w1.heap[wr.heap.size]? = some (.cells #[.string (X k).holder, .int .i64 (X k).kind, .slice sa (X k).secs.length sc, .int .i64 (X k).state] 41 (0, 0)) := (hb1.block _ (by simp)).trans (Deep.blk_alloc_new _ _)
      have H1 : Hid (MapIs w1 w.heap.size m F ∧ Inv X k 0 F) := ⟨HI.out.1.below st, HI.out.2⟩
      have z1 : wr.heap.size < w1.heap.size := by have := hb1.size; simp at this; omega
      clear hb1 x0 x1 x2 x3 x4 HI hb
      rcases hr.cases with ⟨rfl, hp⟩ | ⟨rfl, hp⟩
      case inr =>
        have HP : Hid (¬ OpenP (X k).state) := hp
        clear hp hr x5 bx
        go_wp2
        go_roundw
        case rel => exact ⟨k + 1, m, F, by omega, by go_num, by omega, H1.out.1, H1.out.2.skip HP.out, hbw1⟩
        case measure => simp [intOf]; omega
      have HP : Hid (OpenP (X k).state) := hp
      have cx : w1.cell? ⟨wr.heap.size, 2, none⟩ = some (.slice sa (X k).secs.length sc) := by simp [World.cell?, bx]
      clear hp hr bx
      go_wp2
      clear cx
      obtain ⟨N, hN⟩ : ∃ N, N = (X k).secs.length := ⟨_, rfl⟩
      have HN : Hid (N = (X k).secs.length) := hN
      rw [← hN] at hlen x5 ⊢
      clear hN
      obtain ⟨b3, o3, d3, g3⟩ := x5
      go_loopw [25] (fun i wx => ∃ (l m' : Nat) (F' : Int → Option Int), l ≤ N ∧ i = .int .i64 l ∧ m' ≤ k * 20 + l ∧ MapIs wx w.heap.size m' F' ∧ Inv X k l F' ∧ Below w.heap.size w wx) (fun i _ => N - (intOf i).toNat)
      case atStart => exact ⟨0, m, F, Nat.zero_le _, rfl, by omega, H1.out.1, H1.out.2, hbw1⟩
      case round =>
        obtain ⟨l, m', F', hl', rfl, hm', hmap, hinv, hbx⟩ := hrel
        clear H1
        by_cases hlN : l < N
        · obtain rfl := d3 (by omega)
          have e3 : wr.cell? ⟨b3, o3 + l, none⟩ = some (.int .i64 (sV (X k) l)) := (hbx.cell (p := ⟨b3, o3 + l, none⟩) (World.block_lt_of_cell? _ _ (g3 l hlN))).trans (g3 l hlN)
          clear g3
          obtain ⟨s, hs⟩ : ∃ s, s = sV (X k) l := ⟨_, rfl⟩
          rw [← hs] at e3
          have hwf : (Lit.int .i64 s).wf = true := WalkArith.wf_i64 (by
            have := HL.out.1 l (by rw [← HN.out]; exact hlN)
            rw [hs]; omega)
          have hwk : (Lit.int .i64 (k : Int)).wf = true := WalkArith.wf_i64 (by omega)
          have HS : Hid (s = sV (X k) l ∧ Inv X k l F') := ⟨hs, hinv⟩
          have HW : Hid ((Lit.int .i64 s).wf = true ∧ (Lit.int .i64 (k : Int)).wf = true) := ⟨hwf, hwk⟩
          clear hs hinv hwf hwk hl g hd
          cases hF : F' s with
          | some v =>
            have HF : Hid (F' s = some v) := hF
            have e5 : (F' s).isSome = true := by rw [hF]; rfl
            clear hF
            go_wp2_with (at_lookup; refine wpList_look rfl _ _ rfl w.heap.size m' F' rfl hmap s rfl HW.out.1 ?_)
            go_ret2
            refine ⟨Or.inr ⟨rfl, ?_⟩, hbx⟩
            obtain ⟨h1, h2⟩ := HS.out
            rw [h1] at HF
            obtain ⟨j, hj, hc⟩ := h2.clash HP.out (by rw [← HN.out]; exact hlN) HL.out HF.out
            exact ⟨k, j, hlt, hj, hc⟩
          | none =>
            have HF : Hid (F' s = none) := hF
            have e5 : (F' s).isSome = false := by rw [hF]; rfl
            clear hF
            go_wp2_with (first | (at_lookup; refine wpList_look rfl _ _ rfl w.heap.size m' F' rfl hmap s rfl HW.out.1 ?_) | (at_mapUpdate; refine wpList_store rfl _ _ _ rfl w.heap.size m' F' rfl hmap (by unfold maxLen; omega) s k rfl rfl HW.out.1 HW.out.2 ?_; intro w2 hmap2 hgrow2))
            go_roundw
            case rel =>
              obtain ⟨h1, h2⟩ := HS.out
              refine ⟨l + 1, m' + 1, _, by omega, by go_num, by omega, hmap2, ?_, hbx.grown hgrow2 hbx.size (fun j hj => by cases hj; exact Nat.le_refl _)⟩
              rw [h1] at HF ⊢
              exact h2.store HP.out HF.out
            case measure => simp [intOf]; omega
        · obtain rfl : l = N := by omega
          have HS : Hid (Inv X k l F') := hinv
          clear hinv hl g hd g3
          go_wp2
          go_roundw
          case rel =>
            refine ⟨k + 1, m', F', by omega, by go_num, by omega, hmap, ?_, hbx⟩
            have := HS.out
            rw [HN.out] at this
            exact this.done
          case measure => simp [intOf]; omega
    · obtain rfl : k = n := by omega
      clear hl g hd
      go_wp2
      go_ret2
      exact ⟨Or.inl ⟨w.heap.size, m, F, rfl, Nat.le_refl _, HI.out.1, HI.out.2⟩, hb⟩
end Go.Proofs.YtdlaekjofgbjcaaGreatDoor