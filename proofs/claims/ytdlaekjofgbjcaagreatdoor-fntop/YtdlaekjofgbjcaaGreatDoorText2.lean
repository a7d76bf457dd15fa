/-
 The contracts of spec.l1text, spec.OrderText. Mine, by template (wip/gen.py).
-/
import Derived.Test.YtdlaekjofgbjcaaGreatDoorBaseZ
import Derived.Test.YtdlaekjofgbjcaaGreatDoorTextZ
import Derived.Deep.DeepCutAuto
namespace Go.Proofs.YtdlaekjofgbjcaaGreatDoor
open Go.RowKit
theorem kind_word (kd : Int) (h : kd = 1 ∨ kd = 2) : ∃ kt : ByteArray, (∀ W : World, (W.alloc (.cells #[.string ⟨#[]⟩, .string ⟨#[58, 32, 112, 97, 115, 115]⟩, .string ⟨#[58, 32, 119, 111, 114, 107, 32, 111, 110]⟩] 9)).cell? ⟨W.heap.size, kd.toNat, none⟩ = some (.string kt)) ∧ bl kt = (if kd = 1 then passT else workT) ∧ kt.size ≤ 9 := by
 rcases h with rfl | rfl
 · exact ⟨⟨#[58, 32, 112, 97, 115, 115]⟩, fun W => by simp [go_sem], rfl, by decide⟩
 · exact ⟨⟨#[58, 32, 119, 111, 114, 107, 32, 111, 110]⟩, fun W => by simp [go_sem], rfl, by decide⟩
theorem text_base {i : Nat} {x : Ord} {kt : ByteArray} (h : bl kt = (if x.kind = 1 then passT else workT)) : bl ⟨#[111, 114, 100, 101, 114, 32]⟩ ++ Lib.decDigits i ++ bl ⟨#[32, 116, 111, 32]⟩ ++ bl x.holder ++ bl kt = baseT i x := by
 unfold baseT headT; rw [h]; rfl
def SightIs (v : Value) (B : Bk) (x : Ord) (k : Nat) : Prop := (v = .bool true ∧ SightTo B x k) ∨ (v = .bool false ∧ ¬ SightTo B x k)
theorem SightTo.step {B : Bk} {x : Ord} {k : Nat} (h : SightTo B x k) : SightTo B x (k + 1) := by
 obtain ⟨q, h1, h2⟩ := h; exact ⟨q, by omega, h2⟩
theorem sight_step {B : Bk} {x : Ord} {k m : Nat} (h : ¬ SightTo B x k) (hm : sV x k = (m : Int)) : SightIs (bV B.occ m) B x (k + 1) := by
 by_cases e : B.occ.getD m false = true
 · exact Or.inl ⟨by rw [bV, e], k, by omega, by rw [hm]; exact e⟩
 ·
  refine Or.inr ⟨by rw [bV]; simpa using e, fun ⟨q, h1, h2⟩ => ?_⟩
  by_cases c : q = k
  ·
   subst c; rw [hm] at h2; exact e h2
  · exact h ⟨q, by omega, h2⟩
theorem sec_step {l : List UInt8} {s d : ByteArray} {x : Ord} {k m : Nat} (hs : bl s = l ++ secT x k) (hm : sV x k = (m : Int)) (hd : bl d = Lib.decDigits m) : bl (s ++ (⟨#[32]⟩ ++ d)) = l ++ secT x (k + 1) := by
 rw [bl_append, bl_append, hs, hd, secT, hm, List.append_assoc]; rfl
set_option maxHeartbeats 2000000 in
theorem l1text_any (v : Value) (B : Bk) (i : Nat) (w : World) (hi : i < B.orders.length) (hR : Right B) (G : BookAt w v B) :
  Calls Tryz.prog 52 #[v, .int .i64 i] w fun e w' => RetO e B i ∧ Below w.heap.size w w' := by
 obtain ⟨ao, co, al, cl, ac, cc, rfl, ⟨b, o, hd, g⟩, p2, p3⟩ := G; obtain ⟨sa, sc, q⟩ := (show ∃ sa sc, OrdAt w b (o + i * 4) (bX B i) sa sc from g i hi); obtain rfl := hd (by omega); have hO : B.orders.length ≤ 200 := hR.1.2.2.2; have hOk := hR.2.1 i hi; have hhs : (bX B i).holder.size ≤ 20 := hOk.1.2.2; have hkd : (bX B i).kind = 1 ∨ (bX B i).kind = 2 := by have := hOk.2.1.1; have := hOk.2.1.2; omega
 have hkd1 : 0 ≤ (bX B i).kind := by omega
 have hkd2 : (bX B i).kind < 3 := by omega
 have hns : (bX B i).secs.length ≤ 20 := hOk.2.2.1.2.2; have HR : Hid (Right B) := hR; have HOk : Hid (OrdOk (bX B i) B.n) := hOk; have lb : b < w.heap.size := World.block_lt_of_cell? _ _ q.c0; obtain ⟨x0, x1, x2, x3, x4⟩ := q; have hz : (0 : Int) ≤ (i : Int) := by omega
 have hlz : (i : Int) < (B.orders.length : Int) := by omega
 obtain ⟨kt, hkt1, hkt2, hkt3⟩ := kind_word (bX B i).kind hkd; have HT : Hid ((∀ W : World, (W.alloc (.cells #[.string ⟨#[]⟩, .string ⟨#[58, 32, 112, 97, 115, 115]⟩, .string ⟨#[58, 32, 119, 111, 114, 107, 32, 111, 110]⟩] 9)).cell? ⟨W.heap.size, (bX B i).kind.toNat, none⟩ = some (.string kt)) ∧ bl kt = (if (bX B i).kind = 1 then passT else workT) ∧ kt.size ≤ 9) := ⟨hkt1, hkt2, hkt3⟩; clear g hd hR hOk p2 hkd hkt1 hkt2
 go_enter Tryz.func52, Tryz.ntmps52
 go_wp2; clear x0 x1 x2 x3
 go_cut [6] (fun t wc => ∃ s : ByteArray, t = .string s ∧ bl s = baseT i (bX B i) ∧ s.size ≤ 100 ∧ Below (w.heap.size + 2) ((w.alloc (.cells #[.int .i64 B.n, .slice (some ⟨b, o, none⟩) B.orders.length co, .slice al B.locked.length cl, .slice ac B.occ.length cc] 37)).alloc (.cells #[.string (bX B i).holder, .int .i64 (bX B i).kind, .slice sa (bX B i).secs.length sc, .int .i64 (bX B i).state] 41)) wc)
 case first =>
  rename_i J0 K0 hJ0 hK0
  refine wp_region_held_drew (S := (fun w' => w'.cell? ⟨w.heap.size + 1, 0, none⟩ = some (.string (bX B i).holder) ∧ w'.cell? ⟨w.heap.size + 1, 1, none⟩ = some (.int .i64 (bX B i).kind))) (by kernel_rfl) (by simp [go_sem]) (fun hS0 => ?_); refine tk 0 rfl ?_; refine tk 4 rfl ?_; refine tk 5 rfl ?_; refine tk 8 rfl ?_; refine tk 9 rfl ?_; refine wpAnyH_ready (rs := [1, 7]) (by kernel_rfl) (by simp) ?_; refine AllReadyH.cons rfl (fun K hK => ?_) (AllReadyH.cons rfl (fun K hK => ?_) (AllReadyH.nil))
  ·
   go_simp; refine (l1decimal_any i _ (by omega)).mono ?_; rintro e w1 ⟨⟨d, rfl, hdd⟩, hb⟩; have HD : Hid (bl d = Lib.decDigits i) := hdd; have hds : d.size ≤ 3 := by rw [← bl_size, hdd]; exact dec_len i (by omega)
   clear hdd; have hadd1 := fun W => run_string_add_sum (P := Tryz.prog) W ⟨#[111, 114, 100, 101, 114, 32]⟩ d (by have e1 : (ByteArray.mk #[111, 114, 100, 101, 114, 32]).size = 6 := rfl; omega); have hadd2 := fun W => run_string_add_sum (P := Tryz.prog) W (⟨#[111, 114, 100, 101, 114, 32]⟩ ++ d) ⟨#[32, 116, 111, 32]⟩ (by rw [ByteArray.size_append]; have e1 : (ByteArray.mk #[111, 114, 100, 101, 114, 32]).size = 6 := rfl; have e2 : (ByteArray.mk #[32, 116, 111, 32]).size = 4 := rfl; omega); have hadd3 := fun W => run_string_add_sum (P := Tryz.prog) W (⟨#[111, 114, 100, 101, 114, 32]⟩ ++ d ++ ⟨#[32, 116, 111, 32]⟩) (bX B i).holder (by rw [ByteArray.size_append, ByteArray.size_append]; have e1 : (ByteArray.mk #[111, 114, 100, 101, 114, 32]).size = 6 := rfl; have e2 : (ByteArray.mk #[32, 116, 111, 32]).size = 4 := rfl; omega); have hadd4 := fun W => run_string_add_sum (P := Tryz.prog) W (⟨#[111, 114, 100, 101, 114, 32]⟩ ++ d ++ ⟨#[32, 116, 111, 32]⟩ ++ (bX B i).holder) kt (by rw [ByteArray.size_append, ByteArray.size_append, ByteArray.size_append]; have e1 : (ByteArray.mk #[111, 114, 100, 101, 114, 32]).size = 6 := rfl; have e2 : (ByteArray.mk #[32, 116, 111, 32]).size = 4 := rfl; omega); obtain ⟨hc1, hf1⟩ := bcell hb; clear hf1; refine hK.out _ _ ⟨(hc1 _ _ (by simp)).trans hS0.1, (hc1 _ _ (by simp)).trans hS0.2⟩ (fun hS1 => ?_); clear hK K; refine tk 2 rfl ?_; refine tk 3 rfl ?_; refine tk 6 rfl ?_; refine rdy1 7 rfl (fun K hK => ?_); go_simp; refine hK.out _ _ ⟨by simp [hS1, World.cell?_alloc_some], by simp [hS1, World.cell?_alloc_some]⟩ (fun hS2 => ?_); clear hK K; refine tk 10 rfl ?_; refine rdy1 11 rfl (fun K hK => ?_); have hk := HT.out.1 w1; go_simp; refine hK.out _ _ hS2 (fun _ => ?_); clear hK K; refine tk 12 rfl ?_; refine tk 13 rfl ?_; refine wpAnyH_done (by kernel_rfl) ?_ _; go_simp; refine hK0 _ _ (Met.intro (hJ0 _ _ ?_))
   (repeat apply Exists.intro)
   refine ⟨?rel, rfl⟩
   case rel => exact ⟨_, rfl, by rw [bl_append, bl_append, bl_append, bl_append, HD.out]; exact text_base HT.out.2.1, by rw [ByteArray.size_append, ByteArray.size_append, ByteArray.size_append, ByteArray.size_append]; have e1 : (ByteArray.mk #[111, 114, 100, 101, 114, 32]).size = 6 := rfl; have e2 : (ByteArray.mk #[32, 116, 111, 32]).size = 4 := rfl; omega, ((Below.refl _ _).drew.trans (hb.mono (by simp))).alloc (by have := hb.size; simp at this; omega) _⟩
  ·
   go_simp; refine hK.out _ _ ⟨by simp [World.cell?_alloc_some], by simp [World.cell?_alloc_some]⟩ (fun hS1 => ?_); clear hK K; refine tk 10 rfl ?_; refine wpAnyH_ready (rs := [1, 11]) (by kernel_rfl) (by simp) ?_; refine AllReadyH.cons rfl (fun K hK => ?_) (AllReadyH.cons rfl (fun K hK => ?_) (AllReadyH.nil))
   ·
    go_simp; refine (l1decimal_any i _ (by omega)).mono ?_; rintro e w1 ⟨⟨d, rfl, hdd⟩, hb⟩; have HD : Hid (bl d = Lib.decDigits i) := hdd; have hds : d.size ≤ 3 := by rw [← bl_size, hdd]; exact dec_len i (by omega)
    clear hdd; have hadd1 := fun W => run_string_add_sum (P := Tryz.prog) W ⟨#[111, 114, 100, 101, 114, 32]⟩ d (by have e1 : (ByteArray.mk #[111, 114, 100, 101, 114, 32]).size = 6 := rfl; omega); have hadd2 := fun W => run_string_add_sum (P := Tryz.prog) W (⟨#[111, 114, 100, 101, 114, 32]⟩ ++ d) ⟨#[32, 116, 111, 32]⟩ (by rw [ByteArray.size_append]; have e1 : (ByteArray.mk #[111, 114, 100, 101, 114, 32]).size = 6 := rfl; have e2 : (ByteArray.mk #[32, 116, 111, 32]).size = 4 := rfl; omega); have hadd3 := fun W => run_string_add_sum (P := Tryz.prog) W (⟨#[111, 114, 100, 101, 114, 32]⟩ ++ d ++ ⟨#[32, 116, 111, 32]⟩) (bX B i).holder (by rw [ByteArray.size_append, ByteArray.size_append]; have e1 : (ByteArray.mk #[111, 114, 100, 101, 114, 32]).size = 6 := rfl; have e2 : (ByteArray.mk #[32, 116, 111, 32]).size = 4 := rfl; omega); have hadd4 := fun W => run_string_add_sum (P := Tryz.prog) W (⟨#[111, 114, 100, 101, 114, 32]⟩ ++ d ++ ⟨#[32, 116, 111, 32]⟩ ++ (bX B i).holder) kt (by rw [ByteArray.size_append, ByteArray.size_append, ByteArray.size_append]; have e1 : (ByteArray.mk #[111, 114, 100, 101, 114, 32]).size = 6 := rfl; have e2 : (ByteArray.mk #[32, 116, 111, 32]).size = 4 := rfl; omega); obtain ⟨hc1, hf1⟩ := bcell hb; clear hf1; refine hK.out _ _ ⟨(hc1 _ _ (by simp)).trans hS1.1, (hc1 _ _ (by simp)).trans hS1.2⟩ (fun hS2 => ?_); clear hK K; refine tk 2 rfl ?_; refine tk 3 rfl ?_; refine tk 6 rfl ?_; refine rdy1 11 rfl (fun K hK => ?_); have hk : w1.cell? ⟨w.heap.size + 1 + 1, (bX B i).kind.toNat, none⟩ = some (.string kt) := (hc1 _ _ (by simp)).trans (by have := HT.out.1 ((w.alloc (.cells #[.int .i64 B.n, .slice (some ⟨b, o, none⟩) B.orders.length co, .slice al B.locked.length cl, .slice ac B.occ.length cc] 37)).alloc (.cells #[.string (bX B i).holder, .int .i64 (bX B i).kind, .slice sa (bX B i).secs.length sc, .int .i64 (bX B i).state] 41)); simpa using this); clear hc1; go_simp; refine hK.out _ _ hS2 (fun _ => ?_); clear hK K; refine tk 12 rfl ?_; refine tk 13 rfl ?_; refine wpAnyH_done (by kernel_rfl) ?_ _; go_simp; refine hK0 _ _ (Met.intro (hJ0 _ _ ?_))
    (repeat apply Exists.intro)
    refine ⟨?rel, rfl⟩
    case rel => exact ⟨_, rfl, by rw [bl_append, bl_append, bl_append, bl_append, HD.out]; exact text_base HT.out.2.1, by rw [ByteArray.size_append, ByteArray.size_append, ByteArray.size_append, ByteArray.size_append]; have e1 : (ByteArray.mk #[111, 114, 100, 101, 114, 32]).size = 6 := rfl; have e2 : (ByteArray.mk #[32, 116, 111, 32]).size = 4 := rfl; omega, ((Below.refl _ _).alloc (by simp) _).drew.trans (hb.mono (by simp))⟩
   ·
    have hk : (((w.alloc (.cells #[.int .i64 B.n, .slice (some ⟨b, o, none⟩) B.orders.length co, .slice al B.locked.length cl, .slice ac B.occ.length cc] 37)).alloc (.cells #[.string (bX B i).holder, .int .i64 (bX B i).kind, .slice sa (bX B i).secs.length sc, .int .i64 (bX B i).state] 41)).alloc (.cells #[.string ⟨#[]⟩, .string ⟨#[58, 32, 112, 97, 115, 115]⟩, .string ⟨#[58, 32, 119, 111, 114, 107, 32, 111, 110]⟩] 9)).cell? ⟨w.heap.size + 1 + 1, (bX B i).kind.toNat, none⟩ = some (.string kt) := by have := HT.out.1 ((w.alloc (.cells #[.int .i64 B.n, .slice (some ⟨b, o, none⟩) B.orders.length co, .slice al B.locked.length cl, .slice ac B.occ.length cc] 37)).alloc (.cells #[.string (bX B i).holder, .int .i64 (bX B i).kind, .slice sa (bX B i).secs.length sc, .int .i64 (bX B i).state] 41)); simpa using this
    go_simp; refine hK.out _ _ hS1 (fun hS2 => ?_); clear hK K; refine rdy1 1 rfl (fun K hK => ?_); go_simp; refine (l1decimal_any i _ (by omega)).mono ?_; rintro e w1 ⟨⟨d, rfl, hdd⟩, hb⟩; have HD : Hid (bl d = Lib.decDigits i) := hdd; have hds : d.size ≤ 3 := by rw [← bl_size, hdd]; exact dec_len i (by omega)
    clear hdd; have hadd1 := fun W => run_string_add_sum (P := Tryz.prog) W ⟨#[111, 114, 100, 101, 114, 32]⟩ d (by have e1 : (ByteArray.mk #[111, 114, 100, 101, 114, 32]).size = 6 := rfl; omega); have hadd2 := fun W => run_string_add_sum (P := Tryz.prog) W (⟨#[111, 114, 100, 101, 114, 32]⟩ ++ d) ⟨#[32, 116, 111, 32]⟩ (by rw [ByteArray.size_append]; have e1 : (ByteArray.mk #[111, 114, 100, 101, 114, 32]).size = 6 := rfl; have e2 : (ByteArray.mk #[32, 116, 111, 32]).size = 4 := rfl; omega); have hadd3 := fun W => run_string_add_sum (P := Tryz.prog) W (⟨#[111, 114, 100, 101, 114, 32]⟩ ++ d ++ ⟨#[32, 116, 111, 32]⟩) (bX B i).holder (by rw [ByteArray.size_append, ByteArray.size_append]; have e1 : (ByteArray.mk #[111, 114, 100, 101, 114, 32]).size = 6 := rfl; have e2 : (ByteArray.mk #[32, 116, 111, 32]).size = 4 := rfl; omega); have hadd4 := fun W => run_string_add_sum (P := Tryz.prog) W (⟨#[111, 114, 100, 101, 114, 32]⟩ ++ d ++ ⟨#[32, 116, 111, 32]⟩ ++ (bX B i).holder) kt (by rw [ByteArray.size_append, ByteArray.size_append, ByteArray.size_append]; have e1 : (ByteArray.mk #[111, 114, 100, 101, 114, 32]).size = 6 := rfl; have e2 : (ByteArray.mk #[32, 116, 111, 32]).size = 4 := rfl; omega); obtain ⟨hc1, hf1⟩ := bcell hb; clear hf1; refine hK.out _ _ ⟨(hc1 _ _ (by simp)).trans hS2.1, (hc1 _ _ (by simp)).trans hS2.2⟩ (fun hS3 => ?_); clear hK K; refine tk 2 rfl ?_; refine tk 3 rfl ?_; refine tk 6 rfl ?_; refine tk 12 rfl ?_; refine tk 13 rfl ?_; refine wpAnyH_done (by kernel_rfl) ?_ _; go_simp; refine hK0 _ _ (Met.intro (hJ0 _ _ ?_))
    (repeat apply Exists.intro)
    refine ⟨?rel, rfl⟩
    case rel => exact ⟨_, rfl, by rw [bl_append, bl_append, bl_append, bl_append, HD.out]; exact text_base HT.out.2.1, by rw [ByteArray.size_append, ByteArray.size_append, ByteArray.size_append, ByteArray.size_append]; have e1 : (ByteArray.mk #[111, 114, 100, 101, 114, 32]).size = 6 := rfl; have e2 : (ByteArray.mk #[32, 116, 111, 32]).size = 4 := rfl; omega, ((Below.refl _ _).alloc (by simp) _).drew.trans (hb.mono (by simp))⟩
 case rest =>
  obtain ⟨s, rfl, hs1, hs2, hbc⟩ := hcut
  have HF : Hid (∀ W', Below (w.heap.size + 2) ((w.alloc (.cells #[.int .i64 B.n, .slice (some ⟨b, o, none⟩) B.orders.length co, .slice al B.locked.length cl, .slice ac B.occ.length cc] 37)).alloc (.cells #[.string (bX B i).holder, .int .i64 (bX B i).kind, .slice sa (bX B i).secs.length sc, .int .i64 (bX B i).state] 41)) W' → W'.cell? ⟨w.heap.size + 1, 1, none⟩ = some (.int .i64 (bX B i).kind) ∧ W'.cell? ⟨w.heap.size + 1, 2, none⟩ = some (.slice sa (bX B i).secs.length sc) ∧ W'.cell? ⟨w.heap.size, 3, none⟩ = some (.slice ac B.occ.length cc) ∧ Cells W' ac B.occ.length (bV B.occ) ∧ Cells W' sa (bX B i).secs.length (iV (bX B i).secs)) := by
   intro W' h; have hbb : Below w.heap.size w W' := (below2 w _ _).trans (h.mono (by omega)); exact ⟨(h.cell (p := ⟨w.heap.size + 1, 1, none⟩) (by simp)).trans (by simp), (h.cell (p := ⟨w.heap.size + 1, 2, none⟩) (by simp)).trans (by simp), (h.cell (p := ⟨w.heap.size, 3, none⟩) (by simp)).trans (by simp [World.cell?_alloc_some]), p3.below hbb, x4.below hbb⟩
  clear p3 x4; obtain ⟨f1, f2, f3, f4, f5⟩ := HF.out wc hbc; clear f1 f3 f4 f5; have HS : Hid (bl s = baseT i (bX B i)) := hs1; clear hs1 HT hkt3 kt; go_wp2; clear f2
  go_loopw [6, 7, 31] (fun t v q wr => ∃ (k : Nat) (s : ByteArray), k ≤ (bX B i).secs.length ∧ q = .int .i64 k ∧ t = .string s ∧ bl s = baseT i (bX B i) ++ secT (bX B i) k ∧ s.size ≤ 100 + 4 * k ∧ SightIs v B (bX B i) k ∧ Below (w.heap.size + 2) ((w.alloc (.cells #[.int .i64 B.n, .slice (some ⟨b, o, none⟩) B.orders.length co, .slice al B.locked.length cl, .slice ac B.occ.length cc] 37)).alloc (.cells #[.string (bX B i).holder, .int .i64 (bX B i).kind, .slice sa (bX B i).secs.length sc, .int .i64 (bX B i).state] 41)) wr) (fun _ _ q _ => (bX B i).secs.length - (intOf q).toNat)
  case atStart => exact ⟨0, s, Nat.zero_le _, rfl, rfl, by rw [HS.out]; simp [secT], by omega, Or.inr ⟨rfl, fun ⟨q, h, _⟩ => absurd h (by omega)⟩, hbc⟩
  case round =>
   obtain ⟨k, s, hk, rfl, rfl, hs1, hs2, hv, hbr⟩ := hrel; have HS : Hid (bl s = baseT i (bX B i) ++ secT (bX B i) k) := hs1; clear hs1; obtain ⟨f1, f2, f3, f4, f5⟩ := HF.out wr hbr
   by_cases hlt : k < (bX B i).secs.length
   ·
    obtain ⟨b2, o2, d2, g2⟩ := f5; obtain rfl := d2 (by omega); have hL := HOk.out.2.2.1.1 k hlt; have hsz := HR.out.1; obtain ⟨m, hm⟩ : ∃ m : Nat, sV (bX B i) k = (m : Int) := ⟨(sV (bX B i) k).toNat, by omega⟩; have hm2 : m < B.occ.length := by have := hsz.2.2.1; omega
    have hm3 : m < 60 := by have := hsz.2.2.1; have := hsz.1.2; omega
    have e1 : wr.cell? ⟨b2, o2 + k, none⟩ = some (.int .i64 (m : Int)) := by rw [← hm]; exact g2 k hlt
    have HM : Hid (sV (bX B i) k = (m : Int)) := hm; clear g2 d2 hL hsz hm f1 f2 f3 f4
    go_wp2_with fail
    refine (l1decimal_any m _ (by omega)).mono ?_; rintro e w1 ⟨⟨d, rfl, hdd⟩, hb⟩; have HD : Hid (bl d = Lib.decDigits m) := hdd; have hds : d.size ≤ 3 := by rw [← bl_size, hdd]; exact dec_len m (by omega)
    clear hdd e1; have hb1 := hbr.trans (hb.mono (by have := hbr.size; simp at this; omega)); have hadd1 := fun W => run_string_add_sum (P := Tryz.prog) W ⟨#[32]⟩ d (by have e1 : (ByteArray.mk #[32]).size = 1 := rfl; omega); have hadd2 := fun W => run_string_add_sum (P := Tryz.prog) W s (⟨#[32]⟩ ++ d) (by rw [ByteArray.size_append]; have e1 : (ByteArray.mk #[32]).size = 1 := rfl; omega); obtain ⟨f1, f2, f3, f4, f5⟩ := HF.out w1 hb1; clear f1 f2 f5; obtain ⟨b3, o3, d3, g3⟩ := f4; obtain rfl := d3 (by omega); have e3 := g3 m hm2; clear d3 g3; rcases hv with ⟨rfl, hv⟩ | ⟨rfl, hv⟩
    ·
     have HV : Hid (SightTo B (bX B i) k) := hv; clear hv; go_wp2; go_roundw
     case rel => refine ⟨k + 1, s ++ (⟨#[32]⟩ ++ d), by omega, by go_num, rfl, sec_step HS.out HM.out HD.out, by rw [ByteArray.size_append, ByteArray.size_append]; have e1 : (ByteArray.mk #[32]).size = 1 := rfl; omega, Or.inl ⟨rfl, HV.out.step⟩, hb1⟩
     case measure => simp [intOf]; omega
    ·
     have HV : Hid (¬ SightTo B (bX B i) k) := hv; clear hv; go_wp2; go_roundw
     case rel => refine ⟨k + 1, s ++ (⟨#[32]⟩ ++ d), by omega, by go_num, rfl, sec_step HS.out HM.out HD.out, by rw [ByteArray.size_append, ByteArray.size_append]; have e1 : (ByteArray.mk #[32]).size = 1 := rfl; omega, sight_step HV.out HM.out, hb1⟩
     case measure => simp [intOf]; omega
   ·
    obtain rfl : k = (bX B i).secs.length := by omega
    have hbw : Below w.heap.size w wr := (below2 w _ _).trans (hbr.mono (by omega)); have hns2 : (ByteArray.mk #[32, 111, 110, 32, 115, 105, 103, 104, 116]).size = 9 := rfl; have hadd1 := fun W => run_string_add_sum (P := Tryz.prog) W s ⟨#[32, 111, 110, 32, 115, 105, 103, 104, 116]⟩ (by omega); clear f2 f3 f4 f5; rcases hv with ⟨rfl, hv⟩ | ⟨rfl, hv⟩
    ·
     have HV : Hid (SightTo B (bX B i) (bX B i).secs.length) := hv; clear hv
     by_cases hk1 : (bX B i).kind = 1
     ·
      have t1 : ((bX B i).kind == 1) = true := by simpa using hk1
      have HK : Hid ((bX B i).kind = 1) := hk1; clear hk1; go_wp2; go_ret; refine ⟨⟨_, rfl, Or.inl ⟨HK.out, HV.out, ?_⟩⟩, hbw⟩; rw [bl_append, HS.out]; rfl
     ·
      have t1 : ((bX B i).kind == 1) = false := by simpa using hk1
      have HK : Hid (¬ (bX B i).kind = 1) := hk1; clear hk1; go_wp2; go_ret; exact ⟨⟨_, rfl, Or.inr ⟨fun h => HK.out h.1, HS.out⟩⟩, hbw⟩
    ·
     have HV : Hid (¬ SightTo B (bX B i) (bX B i).secs.length) := hv; clear hv; go_wp2; go_ret; exact ⟨⟨_, rfl, Or.inr ⟨fun h => HV.out h.2, HS.out⟩⟩, hbw⟩
end Go.Proofs.YtdlaekjofgbjcaaGreatDoor
