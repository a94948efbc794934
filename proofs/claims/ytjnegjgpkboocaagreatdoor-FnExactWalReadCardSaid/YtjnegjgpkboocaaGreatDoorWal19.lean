/-
  SpWR0, SpWR, MarkG, FileW, WalFin, SzW, FlatW, FnExactWalReadWalk, ErrsLaidW, FnExactWalReadLaw, ErrsWorldW, FnExactWalReadCard
-/
import Derived.Test.YtjnegjgpkboocaaGreatDoorWal18
import Derived.Test.YtjnegjgpkboocaaGreatDoorWal15
import Derived.Test.YtjnegjgpkboocaaGreatDoorWal1
import Derived.Test.YtjnegjgpkboocaaGreatDoorWal3
import Derived.Deep.DeepCutAuto
import Derived.Deep.CutRange
import Derived.Test.YtjnegjgpkboocaaGreatDoorWal4
import Derived.KernelRfl
import Derived.Test.YtjnegjgpkboocaaGreatDoorWal5
import Derived.Test.YtjnegjgpkboocaaGreatDoorRows
import Derived.Test.YtjnegjgpkboocaaGreatDoorWal12
import Derived.Stop.LaidErr
import Derived.LaidHandle
import Derived.LaidLaws
import Derived.ChangeMaps5
import Derived.ProofKit
import Derived.Test.YtjnegjgpkboocaaGreatDoorCards
import Derived.Test.YtjnegjgpkboocaaGreatDoorTie
import Derived.Deep.DeepHandedRow
/-
  The model's WalRead: lemmas.
-/
namespace Go.Proofs.YtjnegjgpkboocaaGreatDoor
open Go.RowKit

theorem own_bytes {w : World} {base e g n cap : Nat} {xs : List Nat} (h : w.ownsRow base e 1 (.slice (some ⟨g, 0, none⟩) n cap) n (xs.map bv)) (hz : ∀ z ∈ xs, z < 256) : Own w e g xs ∧ base ≤ g := by
  refine ⟨⟨hz, ?_⟩, own1_base h rfl⟩
  rcases h.2 with ⟨h1, -⟩ | ⟨g', cap', cur, h1, hb, hg, hr⟩
  · cases h1
  · simp only [Value.slice.injEq, Option.some.injEq, Addr.mk.injEq, and_true, true_and] at h1; obtain ⟨rfl, rfl⟩ := h1; refine ⟨cur, hg, fun i hi => ?_⟩; have h9 := own1_at h (i := i) (u := .int .u8 ((xs.getD i 0 : Nat) : Int)) (by simp [bv, List.getD, hi]); rw [cell_of_row w g _ _ _ _ hg] at h9; exact h9
theorem nodup_put {α : Type} {f : α → Nat} {E : List α} {k : Nat} {x : α} (h : (E.map f).Nodup) (hn : f x ∉ E.map f) : ((E.set k x).map f).Nodup := by
  rw [List.map_set]
  by_cases hk : k < (E.map f).length
  · rw [List.set_eq_take_append_cons_drop, if_pos hk]
    have hs : E.map f = (E.map f).take k ++ (E.map f)[k] :: (E.map f).drop (k + 1) := by
      conv => lhs; rw [← List.take_append_drop k (E.map f)]
      rw [List.drop_eq_getElem_cons hk]
    generalize E.map f = l at h hn hk hs ⊢; rw [hs] at h hn; rw [List.nodup_append] at h ⊢; obtain ⟨h1, h2, h3⟩ := h; simp only [List.mem_append, List.mem_cons, not_or] at hn; refine ⟨h1, ?_, ?_⟩
    · rw [List.nodup_cons] at h2 ⊢; exact ⟨hn.2.2, h2.2⟩
    · intro a ha b hb
      rcases List.mem_cons.1 hb with rfl | hb
      · rintro rfl; exact hn.1 ha
      · exact h3 a ha b (List.mem_cons_of_mem _ hb)
  · rw [List.set_eq_of_length_le (by omega)]; exact h
theorem map_put {α β : Type} {f : α → β} {E : List α} {k : Nat} {e x : α} (hi : E[k]? = some e) (hf : f x = f e) : (E.set k x).map f = E.map f := by
  apply List.ext_getElem?
  intro i; rw [List.getElem?_map, List.getElem?_map, List.getElem?_set]
  by_cases h : k = i
  · subst h; rw [if_pos rfl, if_pos (List.getElem?_eq_some_iff.1 hi).1, hi]
    simp [hf]
  · rw [if_neg h]
theorem EnR.put {w : World} {G k g' cp : Nat} {E : List En} {e : En} {d : List Nat} (h : EnR w G E) (hi : E[k]? = some e) (hO : Own w 5 g' d) (hn : g' ∉ E.map En.g) :
    EnR (w.setCell ⟨G, k * 2 + 1, none⟩ (.slice (some ⟨g', 0, none⟩) d.length cp)) G (E.set k ⟨e.t, d, 0, d.length, g', cp⟩) := by
  have hne := fun e he => h.ne (e := e) he
  obtain ⟨⟨cur, h1, h2⟩, h3, h4⟩ := h
  have hGg : g' ≠ G := by
    intro hc; rw [hc] at hO; exact absurd (own_type hO h1) (by decide)
  have hblk := heap_setCell_same w G (k * 2 + 1) cur _ (.slice (some ⟨g', 0, none⟩) d.length cp) h1; have hks := (Array.getElem?_eq_some_iff.1 (h2 k e hi).2).1; refine ⟨⟨_, hblk, fun i e' he' => ?_⟩, fun e' he' => ?_, nodup_put h4 hn⟩
  · rw [List.getElem?_set] at he'
    split at he'
    · rename_i hki
      subst hki
      split at he'
      · obtain rfl := Option.some.inj he'; refine ⟨?_, ?_⟩
        · rw [Array.getElem?_setIfInBounds_ne (by omega)]; exact (h2 k e hi).1
        · rw [Array.getElem?_setIfInBounds_self_of_lt hks]
      · cases he'
    · have h9 := h2 i e' he'; refine ⟨?_, ?_⟩
      · rw [Array.getElem?_setIfInBounds_ne (by omega)]; exact h9.1
      · rw [Array.getElem?_setIfInBounds_ne (by omega)]; exact h9.2
  · rcases List.mem_or_eq_of_mem_set he' with h9 | rfl
    · exact ⟨(h3 e' h9).1.of_block (heap_setCell_other w ⟨G, k * 2 + 1, none⟩ _ _ (hne e' h9)), (h3 e' h9).2⟩
    · exact ⟨hO.of_block (heap_setCell_other w ⟨G, k * 2 + 1, none⟩ _ _ hGg), by simp⟩
theorem walP_nlen {F : List Pf} (h : okImg F = true) {p : Pl} {ns : List Nat} {kp : Nat} {b : Bool} (hw : walP F = some (p, ns, kp, b)) : ns.length ≤ 512 := by
  unfold walP at hw
  split at hw
  · simp only [Option.map_eq_some_iff, Prod.mk.injEq] at hw; obtain ⟨q, -, -, rfl, -⟩ := hw
    unfold okImg at h
    simp only [Bool.and_eq_true, decide_eq_true_eq] at h
    have h1 : (keptP (segP F)).length ≤ (segP F).length := by
      unfold keptP
      split
      · simp
      · exact Nat.le_refl _
    have h2 : (segP F).length ≤ F.length := List.length_filter_le _ _; have h3 := h.1.1; rw [List.length_map]
    omega
  · cases hw
theorem En.dlen {e : En} (h : e.off + e.n ≤ e.D.length) : e.data.length = e.n := by simp [En.data]; omega
/-- what l3Wal leaves, as a view -/
theorem walOut_view {w w' : World} {F : List Fi} {e : Ending} (ho : okImg (F.map Fi.pf) = true) (h : WalOut w F e w') : w.grownBy w' none ∧ ∃ (v : Wv) (lb lt : Nat) (a1 : Option Addr) (b1 c1 : Nat) (ok1 : Bool) (a2 : Option Addr) (b2 c2 : Nat), e = .returned (.tuple #[v.val, .agg #[.int .i64 (lb : Int), .int .i64 (lt : Int), .slice a1 b1 c1, .bool ok1], .slice a2 b2 c2]) ∧ WvAt w' v ∧ WvSm v ∧ v.tell = walTell (F.map Fi.pf) ∧ (∀ ad : Addr, v.ea = some ad → w.heap.size ≤ ad.block) ∧ (∀ ad : Addr, v.sa = some ad → w.heap.size ≤ ad.block) := by
  obtain ⟨hg, vw, lb, lt, ls, ok1, sg, rfl, ⟨a1, b1, c1, rfl⟩, ⟨a2, b2, c2, rfl⟩, ⟨hn, rfl⟩ | ⟨p, ns, kp, dr, ea, ec, E, sa, sc, hw, rfl, hE, hI, hp, h1, h2⟩⟩ := h
  · refine ⟨hg, wv0 8, lb, lt, a1, b1, c1, ok1, a2, b2, c2, rfl, (wv0_new 8 (by omega) w w').at_, (wv0_new 8 (by omega) w w').sm, (walTell_bad ho hn).symm, ?_, ?_⟩
    · intro ad hc; cases hc
    · intro ad hc; cases hc
  · have hl := hE.len; have hen := hE.en; refine ⟨hg, ⟨0, p.base, p.bt, E, ns.map (fun n : Nat => (n : Int)), kp, dr, ea, ec, sa, sc⟩, lb, lt, a1, b1, c1, ok1, a2, b2, c2, ?_, ⟨hen, by simpa using hI⟩, ⟨?_, ?_, ?_, ?_⟩, ?_, h1, h2⟩
    · simp [Wv.val, hl]
    · have h9 := hp.last
      show E.length ≤ 1048576
      omega
    · show (ns.map (fun n : Nat => (n : Int))).length ≤ 1048576
      have := walP_nlen ho hw; rw [List.length_map]
      omega
    · intro x hx; have h9 := hE.sm x hx; refine ⟨by omega, by omega, ?_⟩; obtain ⟨-, ⟨-, h0⟩ | ⟨G, -, hR⟩⟩ := hen
      · rw [h0] at hx; cases hx
      · exact (hR.own x hx).2
    · have h9 := hp.last; have h8 := hp.bt; have h7 := walP_keep ho hw; exact ⟨by simp, by show p.base ≤ _; omega, by show p.bt ≤ _; omega, by show kp ≤ _; omega⟩
    · rw [walTell_ok ho hw]
      simp [Wv.tell, hE.tell]
set_option maxRecDepth 100000 in
set_option maxHeartbeats 4000000 in
theorem specWal_any (F : List Fi) (a : Option Addr) (p : Nat) (w : World) (h : ImgAt w a F) (ht : totR (F.map Fi.row) ≤ 1048576) :
    Calls Tryz.prog 5 #[.slice a F.length p] w fun e w' => ∃ v : Wv, e = .returned v.val ∧ WvNew w w' v ∧ v.tell = walTell (F.map Fi.pf) ∧ w.grownBy w' none := by
  have hVI := L1Image_any (F.map Fi.row) a p; rw [filesOf_rows, List.length_map] at hVI; obtain ⟨n0, hn0⟩ : ∃ n, F.length = n := ⟨_, rfl⟩; obtain ⟨ok, hok⟩ : ∃ b, okImg (F.map Fi.pf) = b := ⟨_, rfl⟩
  have HVI : Hid (∀ w' : World, w.grownBy w' none → Calls Tryz.prog 14 #[.slice a n0 p] w' fun e w'' => e = .returned (.bool ok) ∧ w'.grownBy w'' none) := fun w' hg => by
    rw [← hn0, ← hok]; exact hVI w' (h.grown0 hg).rowOk ht
  have HH : Hid (ImgAt w a F ∧ F.length = n0 ∧ okImg (F.map Fi.pf) = ok) := ⟨h, hn0, hok⟩; rw [hn0]; clear hVI h ht hn0 hok
  go_enter Tryz.func5, Tryz.ntmps5
  go_wp2_with fail; have hb0 : (w.alloc (.cells #[.int .i64 0, .int .i64 0, .int .i64 0, .slice none 0 0, .slice none 0 0, .int .i64 0, .bool false] 27)).heap[w.heap.size]? = some (.cells #[.int .i64 0, .int .i64 0, .int .i64 0, .slice none 0 0, .slice none 0 0, .int .i64 0, .bool false] 27 (0, 0)) := heap_alloc_new w _; have hG0 : w.grownBy (w.alloc (.cells #[.int .i64 0, .int .i64 0, .int .i64 0, .slice none 0 0, .slice none 0 0, .int .i64 0, .bool false] 27)) none := World.grownBy_alloc w _ _; generalize w.alloc (.cells #[.int .i64 0, .int .i64 0, .int .i64 0, .slice none 0 0, .slice none 0 0, .int .i64 0, .bool false] 27) = W0 at hb0 hG0 ⊢; refine (HVI.out W0 hG0).mono ?_; clear HVI; rintro e W1 ⟨rfl, hG1⟩; have hb1 := grown_blk hG1 hb0; have hGW := grownBy_trans hG0 hG1; have hlt1 : w.heap.size < W1.heap.size := (Array.getElem?_eq_some_iff.1 hb1).1; have H1 : Hid (W1.heap[w.heap.size]? = some (.cells #[.int .i64 0, .int .i64 0, .int .i64 0, .slice none 0 0, .slice none 0 0, .int .i64 0, .bool false] 27 (0, 0)) ∧ w.grownBy W1 none) := ⟨hb1, hGW⟩; clear hb0 hG0 hG1 hGW hb1
  cases ok with
  | false =>
    have HT : Hid (W1.there w.heap.size 0 7) := there_blk (vs := [.int .i64 0, .int .i64 0, .int .i64 0, .slice none 0 0, .slice none 0 0, .int .i64 0, .bool false]) H1.out.1 rfl
    go_wp2_with (refine wpList_store_mid (by rfl) _ (.tmp 2) (.tmp 10) (by rfl) _ _ [.int .i64 1, .int .i64 0, .int .i64 0, .slice none 0 0, .slice none 0 0, .int .i64 0, .bool false].toArray (by rfl) (by rfl) ?sa ?sb ?sc ?sd; exact HT.out; show _ = some 7; exact Tryz.sizeView; exact all_oneCell_toArray (List.all_eq_true.1 rfl); simp only [Act.put]; generalize hX : World.setCells W1 w.heap.size 0 _ = W2; have hbR : W2.heap[w.heap.size]? = some (.cells [.int .i64 1, .int .i64 0, .int .i64 0, .slice none 0 0, .slice none 0 0, .int .i64 0, .bool false].toArray 27 (0, 0)) := (by rw [← hX]; exact setCells_all (cur := [.int .i64 0, .int .i64 0, .int .i64 0, .slice none 0 0, .slice none 0 0, .int .i64 0, .bool false]) H1.out.1 rfl); have hG2 : w.grownBy W2 none := (by rw [← hX]; exact grownBy_setCellsN (Nat.le_refl _) _ _ _ H1.out.2); clear hX)
    refine bodyPost_ret (results_view (g := w.heap.size) rfl rfl hbR rfl) rfl ?_; exact ⟨wv0 1, rfl, wv0_new 1 (by omega) _ _, (walTell_no HH.out.2.2).symm, hG2⟩
  | true =>
    have HL := l3Wal_any F a p W1 (HH.out.1.grown0 H1.out.2) (okImg_len HH.out.2.2); rw [HH.out.2.1] at HL; have HL' : Hid (Calls _ _ _ _ _) := HL; clear HL; go_wp2_with fail; refine HL'.out.mono ?_; clear HL'; intro e W2 hout; obtain ⟨hG2, v, lb, lt, a1, b1, c1, ok1, a2, b2, c2, rfl, hat, hsm, htl, hea, hsa⟩ := walOut_view HH.out.2.2 hout; clear hout; obtain ⟨cd, ba, bt, E0, zs, kp, dr, ea, ec, sa, sc⟩ := v; simp only [Wv.val] at hat hsm htl hea hsa ⊢; obtain ⟨n, hn⟩ : ∃ x, E0.length = x := ⟨_, rfl⟩; obtain ⟨m, hm⟩ : ∃ x, zs.length = x := ⟨_, rfl⟩; have hs2 := hG2.size
    have hn1 : n ≤ 1048576 := by rw [← hn]; exact hsm.len
    have hb2 := grown_blk hG2 H1.out.1
    have hEn : EnS W2 ea n E0 := by rw [← hn]; exact hat.en
    have hIn : InS W2 sa m zs := by rw [← hm]; exact hat.se
    have HP : Hid (WvSm ⟨cd, ba, bt, E0, zs, kp, dr, ea, ec, sa, sc⟩ ∧ Wv.tell ⟨cd, ba, bt, E0, zs, kp, dr, ea, ec, sa, sc⟩ = walTell (F.map Fi.pf) ∧ (∀ ad : Addr, ea = some ad → W1.heap.size ≤ ad.block) ∧ (∀ ad : Addr, sa = some ad → W1.heap.size ≤ ad.block) ∧ E0.length = n ∧ zs.length = m) := ⟨hsm, htl, hea, hsa, hn, hm⟩; have H2 : Hid (W2.heap[w.heap.size]? = some (.cells #[.int .i64 0, .int .i64 0, .int .i64 0, .slice none 0 0, .slice none 0 0, .int .i64 0, .bool false] 27 (0, 0)) ∧ w.grownBy W2 none ∧ EnS W2 ea n E0 ∧ InS W2 sa m zs) := ⟨hb2, grownBy_trans H1.out.2 hG2, hEn, hIn⟩; rw [hn, hm]; clear hat hsm htl hea hsa hn hm hb2 hG2 hEn hIn H1; have hT3 : ((W2.alloc (.cells #[.int .i64 0, .int .i64 0, .int .i64 0, .slice none 0 0, .slice none 0 0, .int .i64 0, .bool false] 27)).alloc (.cells #[.int .i64 0, .int .i64 0, .slice none 0 0, .bool false] 42)).there W2.heap.size 0 7 := there_blk (vs := [.int .i64 0, .int .i64 0, .int .i64 0, .slice none 0 0, .slice none 0 0, .int .i64 0, .bool false]) (grown_blk (World.grownBy_alloc _ _ _) (heap_alloc_new W2 _)) rfl
    go_upto_region 4 with (refine wpList_store_mid (by rfl) _ (.tmp 3) (.tmp 14) (by rfl) _ _ [.int .i64 (cd : Int), .int .i64 (ba : Int), .int .i64 (bt : Int), .slice ea n ec, .slice sa m sc, .int .i64 (kp : Int), .bool dr].toArray (by rfl) (by rfl) ?ta ?tb ?tc ?td; exact hT3; show _ = some 7; exact Tryz.sizeView; exact all_oneCell_toArray (List.all_eq_true.1 rfl); simp only [Act.put]; generalize hX : World.setCells ((W2.alloc (.cells #[.int .i64 0, .int .i64 0, .int .i64 0, .slice none 0 0, .slice none 0 0, .int .i64 0, .bool false] 27)).alloc (.cells #[.int .i64 0, .int .i64 0, .slice none 0 0, .bool false] 42)) W2.heap.size 0 _ = W3; have hb3 : W3.heap[W2.heap.size]? = some (.cells #[.int .i64 (cd : Int), .int .i64 (ba : Int), .int .i64 (bt : Int), .slice ea n ec, .slice sa m sc, .int .i64 (kp : Int), .bool dr] 27 (0, 0)) := (by rw [← hX]; exact setCells_all (cur := [.int .i64 0, .int .i64 0, .int .i64 0, .slice none 0 0, .slice none 0 0, .int .i64 0, .bool false]) (grown_blk (World.grownBy_alloc _ _ _) (heap_alloc_new W2 _)) rfl); have hl3 : W3.heap[W2.heap.size + 1]? = some (.cells #[.int .i64 0, .int .i64 0, .slice none 0 0, .bool false] 42 (0, 0)) := (by rw [← hX]; exact (setCells_oth _ _ (by omega) _ _ _).trans (heap_two W2 _ _)); have hG3 : W2.grownBy W3 none := (by rw [← hX]; exact grownBy_setCellsN (Nat.le_refl _) _ _ _ (grownBy_alloc (World.grownBy_alloc W2 _ _) _)); clear hX hT3; have y0 : W3.cell? ⟨W2.heap.size + 1, 0, none⟩ = some (.int .i64 0) := (cell_of_row _ _ _ _ _ _ hl3).trans rfl; have y1 : W3.cell? ⟨W2.heap.size + 1, 1, none⟩ = some (.int .i64 0) := (cell_of_row _ _ _ _ _ _ hl3).trans rfl; have y2 : W3.cell? ⟨W2.heap.size + 1, 2, none⟩ = some (.slice none 0 0) := (cell_of_row _ _ _ _ _ _ hl3).trans rfl; have y3 : W3.cell? ⟨W2.heap.size + 1, 3, none⟩ = some (.bool false) := (cell_of_row _ _ _ _ _ _ hl3).trans rfl; have yf0 : W3.frozen? ⟨W2.heap.size + 1, 0, none⟩ = false := (by simp [World.frozen?, hl3]); have yf1 : W3.frozen? ⟨W2.heap.size + 1, 1, none⟩ = false := (by simp [World.frozen?, hl3]); have yf2 : W3.frozen? ⟨W2.heap.size + 1, 2, none⟩ = false := (by simp [World.frozen?, hl3]); have yf3 : W3.frozen? ⟨W2.heap.size + 1, 3, none⟩ = false := (by simp [World.frozen?, hl3]))
    have hg4 : W2.grownBy ((((W3.setCell ⟨W2.heap.size + 1, 0, none⟩ (.int .i64 (lb : Int))).setCell ⟨W2.heap.size + 1, 1, none⟩ (.int .i64 (lt : Int))).setCell ⟨W2.heap.size + 1, 2, none⟩ (.slice a1 b1 c1)).setCell ⟨W2.heap.size + 1, 3, none⟩ (.bool ok1)) none := grown_four hG3 (by omega); have hb4 : ((((W3.setCell ⟨W2.heap.size + 1, 0, none⟩ (.int .i64 (lb : Int))).setCell ⟨W2.heap.size + 1, 1, none⟩ (.int .i64 (lt : Int))).setCell ⟨W2.heap.size + 1, 2, none⟩ (.slice a1 b1 c1)).setCell ⟨W2.heap.size + 1, 3, none⟩ (.bool ok1)).heap[W2.heap.size]? = some (.cells #[.int .i64 (cd : Int), .int .i64 (ba : Int), .int .i64 (bt : Int), .slice ea n ec, .slice sa m sc, .int .i64 (kp : Int), .bool dr] 27 (0, 0)) := (keep_four _ (by omega)).trans hb3; generalize (((W3.setCell ⟨W2.heap.size + 1, 0, none⟩ (.int .i64 (lb : Int))).setCell ⟨W2.heap.size + 1, 1, none⟩ (.int .i64 (lt : Int))).setCell ⟨W2.heap.size + 1, 2, none⟩ (.slice a1 b1 c1)).setCell ⟨W2.heap.size + 1, 3, none⟩ (.bool ok1) = W4 at hg4 hb4 ⊢; clear y0 y1 y2 y3 yf0 yf1 yf2 yf3 hb3 hl3 hG3; obtain ⟨Xv, hXv⟩ : ∃ x, W2.heap.size = x := ⟨_, rfl⟩; rw [hXv] at hb4 ⊢
    have hXw : w.heap.size < Xv := by rw [← hXv]; omega
    have H4 : Hid (W4.heap[w.heap.size]? = some (.cells #[.int .i64 0, .int .i64 0, .int .i64 0, .slice none 0 0, .slice none 0 0, .int .i64 0, .bool false] 27 (0, 0)) ∧ w.grownBy W4 none ∧ EnS W4 ea n E0 ∧ InS W4 sa m zs ∧ W4.heap[Xv]? = some (.cells #[.int .i64 (cd : Int), .int .i64 (ba : Int), .int .i64 (bt : Int), .slice ea n ec, .slice sa m sc, .int .i64 (kp : Int), .bool dr] 27 (0, 0))) := ⟨grown_blk hg4 H2.out.1, grownBy_trans H2.out.2.1 hg4, H2.out.2.2.1.grown0 hg4, H2.out.2.2.2.grown0 hg4, hb4⟩; have v3 : W4.cell? ⟨Xv, 3, none⟩ = some (.slice ea n ec) := (cell_of_row _ _ _ _ _ _ hb4).trans rfl; clear hg4 hb4 hXv H2; go_wp2
    go_loopw [6, 20] (fun _ i wr => ∃ (k : Nat) (E : List En), k ≤ n ∧ i = .int .i64 (k : Int) ∧ EnS wr ea n E ∧ E.map En.tell = E0.map En.tell ∧ (∀ x ∈ E, x.t ≤ 1073741824 ∧ x.n ≤ 1048576 ∧ x.off + x.n ≤ x.D.length) ∧ (∀ j x, j < k → E[j]? = some x → w.heap.size ≤ x.g) ∧ InS wr sa m zs ∧ wr.heap[w.heap.size]? = some (.cells #[.int .i64 0, .int .i64 0, .int .i64 0, .slice none 0 0, .slice none 0 0, .int .i64 0, .bool false] 27 (0, 0)) ∧ wr.heap[Xv]? = some (.cells #[.int .i64 (cd : Int), .int .i64 (ba : Int), .int .i64 (bt : Int), .slice ea n ec, .slice sa m sc, .int .i64 (kp : Int), .bool dr] 27 (0, 0)) ∧ w.grownBy wr none) (fun _ i _ => n - (intOf i).toNat)
    case atStart => exact ⟨0, E0, Nat.zero_le _, rfl, H4.out.2.2.1, rfl, HP.out.1.each, fun j x hj => absurd hj (by omega), H4.out.2.2.2.1, H4.out.1, H4.out.2.2.2.2, H4.out.2.1⟩
    case round =>
      obtain ⟨k, E, hk, rfl, i1, i2, i3, i4, i5, i6, i7, i8⟩ := hrel; have HI : Hid (EnS wr ea n E ∧ E.map En.tell = E0.map En.tell ∧ (∀ x ∈ E, x.t ≤ 1073741824 ∧ x.n ≤ 1048576 ∧ x.off + x.n ≤ x.D.length) ∧ (∀ j x, j < k → E[j]? = some x → w.heap.size ≤ x.g) ∧ InS wr sa m zs ∧ wr.heap[w.heap.size]? = some (.cells #[.int .i64 0, .int .i64 0, .int .i64 0, .slice none 0 0, .slice none 0 0, .int .i64 0, .bool false] 27 (0, 0)) ∧ wr.heap[Xv]? = some (.cells #[.int .i64 (cd : Int), .int .i64 (ba : Int), .int .i64 (bt : Int), .slice ea n ec, .slice sa m sc, .int .i64 (kp : Int), .bool dr] 27 (0, 0)) ∧ w.grownBy wr none) := ⟨i1, i2, i3, i4, i5, i6, i7, i8⟩; clear i1 i2 i3 i4 i5 i6 i7 i8 v3
      by_cases hlt : k < n
      · obtain ⟨e, he⟩ : ∃ e, E[k]? = some e := ⟨_, List.getElem?_eq_getElem (by rw [HI.out.1.1]; exact hlt)⟩
        obtain ⟨G, rfl, hR⟩ : ∃ G, ea = some ⟨G, 0, none⟩ ∧ EnR wr G E := by
          obtain ⟨-, ⟨-, h0⟩ | h0⟩ := HI.out.1
          · rw [h0] at he; cases he
          · exact h0
        obtain ⟨-, hc1, hfz⟩ := hR.cells he; have hem := List.mem_of_getElem? he; have hb := HI.out.2.2.1 e hem; have hdl := En.dlen hb.2.2; have HSL : Hid (SlB wr (some ⟨e.g, e.off, none⟩) e.n e.data) := (hR.own e hem).1.slAt e.off e.n hb.2.2; have HEk : Hid (E[k]? = some e) := he; have HDD : Hid ((∀ z ∈ e.data, z < 256) ∧ e.data.length = e.n ∧ EnR wr G E) := ⟨HSL.out.2.1, hdl, hR⟩; have hdnb : e.n ≤ 1048576 := hb.2.1; obtain ⟨dg, hdg⟩ : ∃ x, e.g = x := ⟨_, rfl⟩; obtain ⟨doff, hdo⟩ : ∃ x, e.off = x := ⟨_, rfl⟩; obtain ⟨dn, hdn⟩ : ∃ x, e.n = x := ⟨_, rfl⟩; obtain ⟨dc, hdc⟩ : ∃ x, e.cp = x := ⟨_, rfl⟩; obtain ⟨dd, hdd⟩ : ∃ x, e.data = x := ⟨_, rfl⟩; rw [hdg, hdo, hdn, hdd] at HSL; rw [hdg, hdo, hdn, hdc] at hc1; rw [hdd, hdn] at HDD; rw [hdn] at hdnb; have HEe : Hid (e.data = dd ∧ e.n = dn ∧ e.off + e.n ≤ e.D.length) := ⟨hdd, hdn, hb.2.2⟩
        have hkI : (k : Int) < (n : Int) := by omega
        have v6 : IntKind.i64.wrap ((k : Int) + 1) = (k : Int) + 1 := IntWalk.i64_in _ (by omega); clear he hR hem hb hdl hdg hdo hdn hdc hdd hfz
        go_upto_region 7 with fail
        refine wp_region_Z (fun Y => Y.heap[Xv]? = some (.cells #[.int .i64 (cd : Int), .int .i64 (ba : Int), .int .i64 (bt : Int), .slice (some ⟨G, 0, none⟩) n ec, .slice sa m sc, .int .i64 (kp : Int), .bool dr] 27 (0, 0)) ∧ Y.cell? ⟨G, k * 2 + 1, none⟩ = some (.slice (some ⟨dg, doff, none⟩) dn dc)) (fun j => j == 13) (by kernel_rfl) ?_; have hS : wr.drew.heap[Xv]? = some (.cells #[.int .i64 (cd : Int), .int .i64 (ba : Int), .int .i64 (bt : Int), .slice (some ⟨G, 0, none⟩) n ec, .slice sa m sc, .int .i64 (kp : Int), .bool dr] 27 (0, 0)) ∧ wr.drew.cell? ⟨G, k * 2 + 1, none⟩ = some (.slice (some ⟨dg, doff, none⟩) dn dc) := ⟨HI.out.2.2.2.2.2.2.1, hc1⟩; refine wpAnyZ_take' (i := 0) (v := ?vz1) rfl (by kernel_rfl) (by kernel_rfl) (by kernel_rfl) (fun _ _ _ h => h) (Or.inl ⟨by rfl, ?yz1⟩) ?rz1
        case yz1 => (intro w _; go_simp; first | done | with_reducible rfl)
        simp only [Act.put, List.setIfInBounds_toArray, List.set_cons_zero, List.set_cons_succ]; refine wpAnyZ_load' (i := 1) (y := 13) (v := ?vz2) rfl (by kernel_rfl) (by kernel_rfl) (by kernel_rfl) (fun _ _ _ h => h) (fun j hj => .inl (by obtain rfl : j = 13 := (by simpa using hj); kernel_rfl)) rfl (by kernel_rfl) (Or.inl ⟨by rfl, ?yz2⟩) hS ?rz2
        case yz2 => (intro W hW; have c3 : W.cell? ⟨Xv, 3, none⟩ = some (.slice (some ⟨G, 0, none⟩) n ec) := (cell_of_row W _ _ _ _ _ hW.1).trans rfl; go_simp; first | done | with_reducible rfl)
        simp only [Act.put, List.setIfInBounds_toArray, List.set_cons_zero, List.set_cons_succ]; refine wpAnyZ_take' (i := 2) (v := ?vz3) rfl (by kernel_rfl) (by kernel_rfl) (by kernel_rfl) (fun _ _ _ h => h) (Or.inl ⟨by rfl, ?yz3⟩) ?rz3
        case yz3 => (intro w _; go_simp; first | done | with_reducible rfl)
        simp only [Act.put, List.setIfInBounds_toArray, List.set_cons_zero, List.set_cons_succ]; refine wpAnyZ_take' (i := 4) (v := ?vz4) rfl (by kernel_rfl) (by kernel_rfl) (by kernel_rfl) (fun _ _ _ h => h) (Or.inl ⟨by rfl, ?yz4⟩) ?rz4
        case yz4 => (intro w _; go_simp; first | done | with_reducible rfl)
        simp only [Act.put, List.setIfInBounds_toArray, List.set_cons_zero, List.set_cons_succ]; refine wpAnyZ_load' (i := 5) (y := 13) (v := ?vz5) rfl (by kernel_rfl) (by kernel_rfl) (by kernel_rfl) (fun _ _ _ h => h) (fun j hj => .inl (by obtain rfl : j = 13 := (by simpa using hj); kernel_rfl)) rfl (by kernel_rfl) (Or.inl ⟨by rfl, ?yz5⟩) hS ?rz5
        case yz5 => (intro W hW; have c3 : W.cell? ⟨Xv, 3, none⟩ = some (.slice (some ⟨G, 0, none⟩) n ec) := (cell_of_row W _ _ _ _ _ hW.1).trans rfl; go_simp; first | done | with_reducible rfl)
        simp only [Act.put, List.setIfInBounds_toArray, List.set_cons_zero, List.set_cons_succ]; refine wpAnyZ_take' (i := 6) (v := ?vz6) rfl (by kernel_rfl) (by kernel_rfl) (by kernel_rfl) (fun _ _ _ h => h) (Or.inl ⟨by rfl, ?yz6⟩) ?rz6
        case yz6 => (intro w _; go_simp; first | done | with_reducible rfl)
        simp only [Act.put, List.setIfInBounds_toArray, List.set_cons_zero, List.set_cons_succ]; refine wpAnyZ_take' (i := 7) (v := ?vz7) rfl (by kernel_rfl) (by kernel_rfl) (by kernel_rfl) (fun _ _ _ h => h) (Or.inl ⟨by rfl, ?yz7⟩) ?rz7
        case yz7 => (intro w _; go_simp; first | done | with_reducible rfl)
        simp only [Act.put, List.setIfInBounds_toArray, List.set_cons_zero, List.set_cons_succ]; refine wpAnyZ_take' (i := 8) (v := ?vz8) rfl (by kernel_rfl) (by kernel_rfl) (by kernel_rfl) (fun _ _ _ h => h) (Or.inl ⟨by rfl, ?yz8⟩) ?rz8
        case yz8 => (intro w _; go_simp; first | done | with_reducible rfl)
        simp only [Act.put, List.setIfInBounds_toArray, List.set_cons_zero, List.set_cons_succ]; refine wpAnyZ_load' (i := 9) (y := 13) (v := ?vz9) rfl (by kernel_rfl) (by kernel_rfl) (by kernel_rfl) (fun _ _ _ h => h) (fun j hj => .inl (by obtain rfl : j = 13 := (by simpa using hj); kernel_rfl)) rfl (by kernel_rfl) (Or.inl ⟨by rfl, ?yz9⟩) hS ?rz9
        case yz9 => (intro W hW; have c0 : W.cell? ⟨G, k * 2 + 1, none⟩ = some (.slice (some ⟨dg, doff, none⟩) dn dc) := hW.2; go_simp; first | done | with_reducible rfl)
        simp only [Act.put, List.setIfInBounds_toArray, List.set_cons_zero, List.set_cons_succ]; clear hS; have G0 : wr.grownBy wr.drew none := grownBy_drew (grownBy_refl _ _); generalize wr.drew = Y0 at G0 ⊢
        have SK7 : ∀ {Y : World}, wr.grownBy Y none → (Y.heap[Xv]? = some (.cells #[.int .i64 (cd : Int), .int .i64 (ba : Int), .int .i64 (bt : Int), .slice (some ⟨G, 0, none⟩) n ec, .slice sa m sc, .int .i64 (kp : Int), .bool dr] 27 (0, 0)) ∧ Y.cell? ⟨G, k * 2 + 1, none⟩ = some (.slice (some ⟨dg, doff, none⟩) dn dc)) := fun {Y} hv => ⟨grown_blk hv HI.out.2.2.2.2.2.2.1, ((bcell hv).1 _ _ (cell_block_lt hc1)).trans hc1⟩
        refine wpAnyZ_one' (i := 3) (by kernel_rfl) rfl (fun K hK => ?_); go_simp; refine hK.out _ _ (fun _ _ => SK7 (grownBy_alloc G0 _)) ?_; clear hK K; (try simp only [Act.put, List.setIfInBounds_toArray, List.set_cons_zero, List.set_cons_succ]); have G1 : wr.grownBy (Y0.alloc (.cells #[] 5)) none := grownBy_alloc G0 _; have O0 : (Y0.alloc (.cells #[] 5)).ownsRow wr.heap.size 5 1 (.slice (some ⟨Y0.heap.size, 0, none⟩) 0 0) 0 (([] : List Nat).map bv) := World.ownsRow_made Y0 #[] 0 G0.size (Nat.zero_le _) rfl; have hgy := G0.size; generalize Y0.alloc (.cells #[] 5) = Y1 at G1 O0 ⊢; obtain ⟨i0, TB⟩ := byteT; refine wpAnyZ_one' (i := 10) (by kernel_rfl) rfl (fun K hK => ?_); refine step_append_b (by rfl) (.tmp 26) (.tmp 32) TB (by rfl) (base := wr.heap.size) (g := Y0.heap.size) (n := 0) (cap := 0) (xs := []) (by rfl) O0 (oa := some ⟨dg, doff, none⟩) (m := dn) (c := dc) (zs := dd) (by rfl) (HSL.out.grown0 G1) (by omega) G1.size ?_; intro g7 c7 Y2 O7 g7g g7a hs7; have G2 : wr.grownBy Y2 none := grownBy_new G1 g7g.out hgy; refine hK.out _ _ (fun _ _ => SK7 G2) ?_; clear hK K; (try simp only [Act.put, List.setIfInBounds_toArray, List.set_cons_zero, List.set_cons_succ])
        have H7 : Hid (Own Y2 5 g7 dd ∧ wr.heap.size ≤ g7 ∧ wr.grownBy Y2 none) := by
          have h9 := O7.out; simp only [List.nil_append] at h9; have h8 := own_bytes (n := 0 + dn) h9 HDD.out.1; exact ⟨h8.1, h8.2, G2⟩
        have e0 : 0 + dn = dn := Nat.zero_add _; rw [e0]; have kc : Y2.cell? ⟨G, k * 2 + 1, none⟩ = some (.slice (some ⟨dg, doff, none⟩) dn dc) := (SK7 G2).2
        have kf : Y2.frozen? ⟨G, k * 2 + 1, none⟩ = false := by
          obtain ⟨-, ⟨h9, -⟩ | ⟨G9, h9, hR9⟩⟩ := HI.out.1
          · cases h9
          · obtain rfl : G = G9 := by simpa using h9
            exact ((hR9.grown0 G2).cells HEk.out).2.2 _
        clear O7 g7g g7a hs7 O0 G1 G0 hgy SK7 e0 G2; refine wpAnyZ_take' (i := 11) (v := ?vz10) rfl (by kernel_rfl) (by kernel_rfl) (by kernel_rfl) (fun _ _ _ h => h) (Or.inl ⟨by rfl, ?yz10⟩) ?rz10
        case yz10 => (intro w _; go_simp; first | done | with_reducible rfl)
        simp only [Act.put, List.setIfInBounds_toArray, List.set_cons_zero, List.set_cons_succ]; refine wpAnyZ_take' (i := 12) (v := ?vz11) rfl (by kernel_rfl) (by kernel_rfl) (by kernel_rfl) (fun _ _ _ h => h) (Or.inl ⟨by rfl, ?yz11⟩) ?rz11
        case yz11 => (intro w _; go_simp; first | done | with_reducible rfl)
        simp only [Act.put, List.setIfInBounds_toArray, List.set_cons_zero, List.set_cons_succ]; refine wpAnyZ_one' (i := 13) (by kernel_rfl) rfl (fun K hK => ?_); go_simp; refine hK.out _ _ (fun hc => (by cases hc)) ?_; clear hK K; (try simp only [Act.put]); refine wpAnyZ_done (by kernel_rfl) ?_ _; go_wp2; go_roundw
        case rel =>
          obtain ⟨i1, i2, i3, i4, i5, i6, i7, i8⟩ := HI.out; have g := H7.out.2.2; have hgG : wr.grownBy Y2 none := g; have hRY := HDD.out.2.2.grown0 g
          have hnew : g7 ∉ E.map En.g := by
            intro hc; obtain ⟨x, hx, hxg⟩ := List.mem_map.1 hc; have h9 := (HDD.out.2.2.own x hx).1.lt; have h8 := H7.out.2.1
            omega
          have hGw : w.heap.size ≤ G := by have := HP.out.2.2.1 _ rfl; simp at this; omega
          have hGX : G ≠ Xv := by
            intro hc; obtain ⟨cur, h9, -⟩ := HDD.out.2.2.row; rw [hc, i7] at h9; have h8 := Option.some.inj h9
            injection h8 with _ h7 _
            exact absurd h7 (by decide)
          have hGX0 : G ≠ w.heap.size := by
            intro hc; obtain ⟨cur, h9, -⟩ := HDD.out.2.2.row; rw [hc, i6] at h9; have h8 := Option.some.inj h9
            injection h8 with _ h7 _
            exact absurd h7 (by decide)
          have hPut := hRY.put (cp := c7) HEk.out H7.out.1 hnew; rw [HDD.out.2.1] at hPut; refine ⟨k + 1, E.set k ⟨e.t, dd, 0, dn, g7, c7⟩, by omega, by go_num, ⟨by rw [List.length_set]; exact i1.1, .inr ⟨G, rfl, hPut⟩⟩, ?_, ?_, ?_, ?_, set_oth _ _ (fun hc => hGX0 hc.symm) (grown_blk g i6), set_oth _ _ (fun hc => hGX hc.symm) (grown_blk g i7), grownBy_setNew (grownBy_trans i8 g) hGw⟩
          · rw [← i2]; refine map_put HEk.out ?_
            show (e.t, ((dd.drop 0).take dn)) = (e.t, e.data)
            rw [HEe.out.1, List.drop_zero, List.take_of_length_le (by rw [HDD.out.2.1]; exact Nat.le_refl _)]
          · intro x hx
            rcases List.mem_or_eq_of_mem_set hx with h9 | rfl
            · exact i3 x h9
            · have h9 := i3 e (List.mem_of_getElem? HEk.out); exact ⟨h9.1, hdnb, by show 0 + dn ≤ dd.length; rw [HDD.out.2.1]; omega⟩
          · intro j x hj hx; rw [List.getElem?_set] at hx
            split at hx
            · split at hx
              · obtain rfl := Option.some.inj hx; have h9 := H7.out.2.1; have h8 := i8.size
                show w.heap.size ≤ g7
                omega
              · cases hx
            · exact i4 j x (by omega) hx
          · refine inS_keep (i5.grown0 g) (fun G9 h9 => heap_setCell_other _ ⟨G, k * 2 + 1, none⟩ G9 _ ?_); intro hc; obtain ⟨-, ⟨h8, -⟩ | ⟨G8, h8, h7⟩⟩ := i5
            · rw [h8] at h9; cases h9
            · rw [h8] at h9; obtain ⟨-, cur8, h6, -⟩ := h7; obtain ⟨cur, h5, -⟩ := HDD.out.2.2.row
              have h4 : G8 = G9 := by simpa using h9
              have hc' : G9 = G := hc; rw [h4, hc', h5] at h6; have h3 := Option.some.inj h6
              injection h3 with _ h2 _
              exact absurd h2 (by decide)
        case measure => simp [intOf]; omega
      · obtain rfl : n = k := by omega
        have hkI : ¬ (n : Int) < (n : Int) := by omega
        have u0c : wr.cell? ⟨Xv, 0, none⟩ = some (.int .i64 (cd : Int)) := (cell_of_row _ _ _ _ _ _ HI.out.2.2.2.2.2.2.1).trans rfl; have u1c : wr.cell? ⟨Xv, 1, none⟩ = some (.int .i64 (ba : Int)) := (cell_of_row _ _ _ _ _ _ HI.out.2.2.2.2.2.2.1).trans rfl; have u2c : wr.cell? ⟨Xv, 2, none⟩ = some (.int .i64 (bt : Int)) := (cell_of_row _ _ _ _ _ _ HI.out.2.2.2.2.2.2.1).trans rfl; have u3c : wr.cell? ⟨Xv, 3, none⟩ = some (.slice ea n ec) := (cell_of_row _ _ _ _ _ _ HI.out.2.2.2.2.2.2.1).trans rfl; have u4c : wr.cell? ⟨Xv, 4, none⟩ = some (.slice sa m sc) := (cell_of_row _ _ _ _ _ _ HI.out.2.2.2.2.2.2.1).trans rfl; have u5c : wr.cell? ⟨Xv, 5, none⟩ = some (.int .i64 (kp : Int)) := (cell_of_row _ _ _ _ _ _ HI.out.2.2.2.2.2.2.1).trans rfl; have u6c : wr.cell? ⟨Xv, 6, none⟩ = some (.bool dr) := (cell_of_row _ _ _ _ _ _ HI.out.2.2.2.2.2.2.1).trans rfl; have HT : Hid (wr.there w.heap.size 0 7) := there_blk (vs := [.int .i64 0, .int .i64 0, .int .i64 0, .slice none 0 0, .slice none 0 0, .int .i64 0, .bool false]) HI.out.2.2.2.2.2.1 rfl
        go_wp2_with (refine wpList_store_mid (by rfl) _ (.tmp 2) (.tmp 37) (by rfl) _ _ [.int .i64 (cd : Int), .int .i64 (ba : Int), .int .i64 (bt : Int), .slice ea n ec, .slice sa m sc, .int .i64 (kp : Int), .bool dr].toArray (by rfl) (by rfl) ?se ?sf ?sg ?sh; exact HT.out; show _ = some 7; exact Tryz.sizeView; exact all_oneCell_toArray (List.all_eq_true.1 rfl); simp only [Act.put]; generalize hX : World.setCells wr w.heap.size 0 _ = W5; have hbR : W5.heap[w.heap.size]? = some (.cells [.int .i64 (cd : Int), .int .i64 (ba : Int), .int .i64 (bt : Int), .slice ea n ec, .slice sa m sc, .int .i64 (kp : Int), .bool dr].toArray 27 (0, 0)) := (by rw [← hX]; exact setCells_all (cur := [.int .i64 0, .int .i64 0, .int .i64 0, .slice none 0 0, .slice none 0 0, .int .i64 0, .bool false]) HI.out.2.2.2.2.2.1 rfl); have hG5 : w.grownBy W5 none := (by rw [← hX]; exact grownBy_setCellsN (Nat.le_refl _) _ _ _ HI.out.2.2.2.2.2.2.2); have HK5 : Hid (∀ q, q ≠ w.heap.size → W5.heap[q]? = wr.heap[q]?) := (fun q hq => by rw [← hX]; exact setCells_oth _ _ hq _ _ _); clear hX)
        refine bodyPost_ret (results_view (g := w.heap.size) rfl rfl hbR rfl) rfl ?_; obtain ⟨i1, i2, i3, i4, i5, i6, i7, i8⟩ := HI.out; have hlenE : E.length = n := i1.1
        have hK : ∀ (q : Nat) (cur : Array Value) (t : TypeId) (f : Nat × Nat), t ≠ 27 → wr.heap[q]? = some (.cells cur t f) → W5.heap[q]? = wr.heap[q]? := fun q cur t f ht hq => HK5.out q (by
          rintro rfl; rw [i6] at hq; have h8 := Option.some.inj hq
          injection h8 with _ h7 _
          exact ht h7.symm)
        have hE5 : EnS W5 ea n E := by
          obtain ⟨hl, h0 | ⟨G, hG, hR⟩⟩ := i1
          · exact ⟨hl, .inl h0⟩
          · refine ⟨hl, .inr ⟨G, hG, hR.kept (fun q hq => ?_)⟩⟩
            rcases hq with rfl | hq
            · obtain ⟨cur, h9, -⟩ := hR.row; exact hK _ _ _ _ (by decide) h9
            · obtain ⟨x, hx, rfl⟩ := List.mem_map.1 hq; obtain ⟨-, cur, h9, -⟩ := (hR.own x hx).1; exact hK _ _ _ _ (by decide) h9
        have hI5 : InS W5 sa m zs := inS_keep i5 (fun G9 h9 => by
          obtain ⟨-, ⟨h8, -⟩ | ⟨G8, h8, h7⟩⟩ := i5
          · rw [h8] at h9; cases h9
          · rw [h8] at h9; obtain ⟨-, cur8, h6, -⟩ := h7
            obtain rfl : G8 = G9 := by simpa using h9
            exact hK _ _ _ _ (by decide) h6)
        refine ⟨⟨cd, ba, bt, E, zs, kp, dr, ea, ec, sa, sc⟩, by simp [Wv.val, hlenE, HP.out.2.2.2.2.2], ⟨⟨by show EnS W5 ea E.length E; rw [hlenE]; exact hE5, by show InS W5 sa zs.length zs; rw [HP.out.2.2.2.2.2]; exact hI5⟩, ⟨by show E.length ≤ _; omega, HP.out.1.slen, i3, HP.out.1.num⟩, ?_⟩, ?_, hG5⟩
        · intro q hq
          rcases hq with ⟨ad, h9, h8⟩ | hq | ⟨ad, h9, h8⟩
          · have := HP.out.2.2.1 ad h9; omega
          · obtain ⟨x, hx, hxq⟩ := List.mem_map.1 hq; obtain ⟨j, hj⟩ := List.mem_iff_getElem?.1 hx; have h7 : j < E.length := (List.getElem?_eq_some_iff.1 hj).1; have := i4 j x (by omega) hj
            omega
          · have := HP.out.2.2.2.1 ad h9; omega
        · rw [← HP.out.2.1]
          simp [Wv.tell, i2]
/-- alike but for numbers, truths and texts -/
def alike (a b : Value) : Prop := a = b ∨ (∃ k n n', a = .int k n ∧ b = .int k n') ∨ (∃ x y, a = .bool x ∧ b = .bool y) ∨ ∃ x y, a = .string x ∧ b = .string y
theorem alike.trans {a b c : Value} (h : alike a b) (k : alike b c) : alike a c := by
  rcases h with rfl | ⟨q, n, n', rfl, rfl⟩ | ⟨x, y, rfl, rfl⟩ | ⟨x, y, rfl, rfl⟩
  · exact k
  · rcases k with rfl | ⟨q', m, m', h1, rfl⟩ | ⟨x, y, h1, _⟩ | ⟨x, y, h1, _⟩
    · exact .inr (.inl ⟨q, n, n', rfl, rfl⟩)
    · cases h1; exact .inr (.inl ⟨q, n, m', rfl, rfl⟩)
    · cases h1
    · cases h1
  · rcases k with rfl | ⟨q', m, m', h1, _⟩ | ⟨x', y', h1, rfl⟩ | ⟨x', y', h1, _⟩
    · exact .inr (.inr (.inl ⟨x, y, rfl, rfl⟩))
    · cases h1
    · exact .inr (.inr (.inl ⟨x, y', rfl, rfl⟩))
    · cases h1
  · rcases k with rfl | ⟨q', m, m', h1, _⟩ | ⟨x', y', h1, _⟩ | ⟨x', y', h1, rfl⟩
    · exact .inr (.inr (.inr ⟨x, y, rfl, rfl⟩))
    · cases h1
    · cases h1
    · exact .inr (.inr (.inr ⟨x, y', rfl, rfl⟩))
/-- from one world to the other only numbers and truths have turned, and those from block lo on -/
structure Mk (lo : Nat → Prop) (w w' : World) : Prop where
  os : w'.os = w.os
  tape : w'.tape = w.tape
  output : w'.output = w.output
  size : w'.heap.size = w.heap.size
  below : ∀ k, ¬ lo k → w'.heap[k]? = w.heap[k]?
  cell : ∀ a v, w.cell? a = some v → ∃ v', w'.cell? a = some v' ∧ alike v v'
  free : ∀ a, w'.frozen? a = w.frozen? a
theorem Mk.refl (lo : Nat → Prop) (w : World) : Mk lo w w := ⟨rfl, rfl, rfl, rfl, fun _ _ => rfl, fun _ v h => ⟨v, h, .inl rfl⟩, fun _ => rfl⟩
theorem Mk.trans {lo : Nat → Prop} {a b c : World} (h : Mk lo a b) (k : Mk lo b c) : Mk lo a c :=
  ⟨k.os.trans h.os, k.tape.trans h.tape, k.output.trans h.output, k.size.trans h.size, fun i hi => (k.below i hi).trans (h.below i hi), fun x v hv => by
    obtain ⟨v1, h1, a1⟩ := h.cell x v hv; obtain ⟨v2, h2, a2⟩ := k.cell x v1 h1
    exact ⟨v2, h2, a1.trans a2⟩, fun x => (k.free x).trans (h.free x)⟩
theorem Mk.set {lo : Nat → Prop} {w X : World} (h : Mk lo w X) {g o : Nat} {u v : Value} (hg : lo g) (hu : X.cell? ⟨g, o, none⟩ = some u) (ha : alike u v) : Mk lo w (X.setCell ⟨g, o, none⟩ v) := by
  refine h.trans ⟨rfl, rfl, rfl, by simp [World.setCell], fun k hk => heap_setCell_other X _ k v (show k ≠ g from fun e => hk (e ▸ hg)), fun x y hy => ?_, fun x => World.frozen?_setCell _ _ _ _⟩
  by_cases e : (⟨g, o, none⟩ : Addr) = x
  · subst e; rw [hu] at hy; obtain rfl := Option.some.inj hy; exact ⟨v, World.cell?_setCell_same _ _ _ hu, ha⟩
  · exact ⟨y, (World.cell?_setCell_other _ _ _ _ e).trans hy, .inl rfl⟩
theorem Mk.setN {lo : Nat → Prop} {w X : World} (h : Mk lo w X) {g o : Nat} (hq : ∃ u : Int, X.cell? ⟨g, o, none⟩ = some (.int .i64 u) ∧ X.frozen? ⟨g, o, none⟩ = false) (hg : lo g) (v : Int) : Mk lo w (X.setCell ⟨g, o, none⟩ (.int .i64 v)) := by
  obtain ⟨u, hu, -⟩ := hq; exact h.set hg hu (.inr (.inl ⟨_, _, _, rfl, rfl⟩))
theorem Mk.setB {lo : Nat → Prop} {w X : World} (h : Mk lo w X) {g o : Nat} (hq : ∃ u : Bool, X.cell? ⟨g, o, none⟩ = some (.bool u) ∧ X.frozen? ⟨g, o, none⟩ = false) (hg : lo g) (v : Bool) : Mk lo w (X.setCell ⟨g, o, none⟩ (.bool v)) := by
  obtain ⟨u, hu, -⟩ := hq; exact h.set hg hu (.inr (.inr (.inl ⟨_, _, rfl, rfl⟩)))
theorem Mk.setS {lo : Nat → Prop} {w X : World} (h : Mk lo w X) {g o : Nat} (hq : ∃ u : ByteArray, X.cell? ⟨g, o, none⟩ = some (.string u) ∧ X.frozen? ⟨g, o, none⟩ = false) (hg : lo g) (v : ByteArray) : Mk lo w (X.setCell ⟨g, o, none⟩ (.string v)) := by
  obtain ⟨u, hu, -⟩ := hq; exact h.set hg hu (.inr (.inr (.inr ⟨_, _, rfl, rfl⟩)))
/-- its places lie there, from lo on, and may be written; of its numbers only that they are numbers -/
def Dug (w : World) (lo : Nat → Prop) (x0 : Tr) : Prop :=
  ∀ P : Tr → Prop, (∀ (n : Int), P (.int n)) →
    (∀ (b : Bool), P (.bool b)) →
    (∀ (s : ByteArray), P (.str s)) →
    (∀ (d : List Nat) (g : Nat) (cp : Nat) (_hg : lo g) (_hc : ∀ i, i < d.length → ∃ v, w.cell? ⟨g, i, none⟩ = some (.int .u8 v)) (_hf : ∀ o, w.frozen? ⟨g, o, none⟩ = false), P (.byt d (some ⟨g, 0, none⟩) cp)) →
    (∀ (m : Nat) (g : Nat) (cp : Nat) (L : List (List Tr)) (_hg : lo g) (_hc : ∀ (i j : Nat) (e : List Tr) (y : Tr), L[i]? = some e → e[j]? = some y → ∃ v, w.cell? ⟨g, i * m + j, none⟩ = some v ∧ alike y.cell v) (_hf : ∀ o, w.frozen? ⟨g, o, none⟩ = false) (_hs : ∀ (i j : Nat) (e : List Tr) (y : Tr), L[i]? = some e → e[j]? = some y → P y), P (.row m (some ⟨g, 0, none⟩) cp L)) → P x0
theorem Dug.int {w : World} {lo : Nat → Prop} (n : Int) : Dug w lo (.int n) := fun _ c0 _ _ _ _ => c0 n
theorem Dug.bool {w : World} {lo : Nat → Prop} (b : Bool) : Dug w lo (.bool b) := fun _ _ c1 _ _ _ => c1 b
theorem Dug.str {w : World} {lo : Nat → Prop} (s : ByteArray) : Dug w lo (.str s) := fun _ _ _ c2 _ _ => c2 s
theorem Dug.byt {w : World} {lo : Nat → Prop} {d : List Nat} {g : Nat} {cp : Nat} (hg : lo g) (hc : ∀ i, i < d.length → ∃ v, w.cell? ⟨g, i, none⟩ = some (.int .u8 v)) (hf : ∀ o, w.frozen? ⟨g, o, none⟩ = false) : Dug w lo (.byt d (some ⟨g, 0, none⟩) cp) := fun _ _ _ _ c3 _ => c3 d g cp hg hc hf
theorem Dug.row {w : World} {lo : Nat → Prop} {m : Nat} {g : Nat} {cp : Nat} {L : List (List Tr)} (hg : lo g) (hc : ∀ (i j : Nat) (e : List Tr) (y : Tr), L[i]? = some e → e[j]? = some y → ∃ v, w.cell? ⟨g, i * m + j, none⟩ = some v ∧ alike y.cell v) (hf : ∀ o, w.frozen? ⟨g, o, none⟩ = false) (hs : ∀ (i j : Nat) (e : List Tr) (y : Tr), L[i]? = some e → e[j]? = some y → Dug w lo y) : Dug w lo (.row m (some ⟨g, 0, none⟩) cp L) := fun P c0 c1 c2 c3 c4 => c4 m g cp L hg hc hf (fun i j e y hi hj => hs i j e y hi hj P c0 c1 c2 c3 c4)
theorem Dug.elim {w : World} {lo : Nat → Prop} {motive : (x0 : Tr) → Dug w lo x0 → Prop}
    (int : ∀ (n : Int), motive (.int n) (.int n))
    (bool : ∀ (b : Bool), motive (.bool b) (.bool b))
    (str : ∀ (s : ByteArray), motive (.str s) (.str s))
    (byt : ∀ {d : List Nat} {g : Nat} {cp : Nat} (hg : lo g) (hc : ∀ i, i < d.length → ∃ v, w.cell? ⟨g, i, none⟩ = some (.int .u8 v)) (hf : ∀ o, w.frozen? ⟨g, o, none⟩ = false), motive (.byt d (some ⟨g, 0, none⟩) cp) (.byt hg hc hf))
    (row : ∀ {m : Nat} {g : Nat} {cp : Nat} {L : List (List Tr)} (hg : lo g) (hc : ∀ (i j : Nat) (e : List Tr) (y : Tr), L[i]? = some e → e[j]? = some y → ∃ v, w.cell? ⟨g, i * m + j, none⟩ = some v ∧ alike y.cell v) (hf : ∀ o, w.frozen? ⟨g, o, none⟩ = false) (hs : ∀ (i j : Nat) (e : List Tr) (y : Tr), L[i]? = some e → e[j]? = some y → Dug w lo y), (∀ i j e y hi hj, motive y (hs i j e y hi hj)) → motive (.row m (some ⟨g, 0, none⟩) cp L) (.row hg hc hf hs))
    {x0 : Tr} (h : Dug w lo x0) : motive x0 h :=
  (h (fun x0 => ∃ h : Dug w lo x0, motive x0 h) (fun n => ⟨.int n, int n ⟩)
    (fun b => ⟨.bool b, bool b ⟩)
    (fun s => ⟨.str s, str s ⟩)
    (fun _ _ _ hg hc hf => ⟨.byt hg hc hf, byt hg hc hf ⟩)
    (fun _ _ _ _ hg hc hf hs => ⟨.row hg hc hf (fun i j e y hi hj => (hs i j e y hi hj).elim fun a _ => a), row hg hc hf (fun i j e y hi hj => (hs i j e y hi hj).elim fun a _ => a) (fun i j e y hi hj => (hs i j e y hi hj).elim fun _ b => b)⟩)).elim fun _ b => b
theorem Dug.inv {w : World} {lo : Nat → Prop} {x : Tr} (h : Dug w lo x) : (x.tell.tag = 3 → ∃ g, x.a = some ⟨g, 0, none⟩ ∧ lo g ∧ (∀ i, i < x.tell.d.length → ∃ v, w.cell? ⟨g, i, none⟩ = some (.int .u8 v)) ∧ ∀ o, w.frozen? ⟨g, o, none⟩ = false) ∧ (x.tell.tag = 4 → ∃ g, x.a = some ⟨g, 0, none⟩ ∧ lo g ∧ (∀ (i j : Nat) (e : List Tr) (y : Tr), x.L[i]? = some e → e[j]? = some y → ∃ v, w.cell? ⟨g, i * x.m + j, none⟩ = some v ∧ alike y.cell v) ∧ (∀ o, w.frozen? ⟨g, o, none⟩ = false) ∧ ∀ (i j : Nat) (e : List Tr) (y : Tr), x.L[i]? = some e → e[j]? = some y → Dug w lo y) := by
  cases h using Dug.elim with
  | int n => exact ⟨fun e => (by cases e), fun e => (by cases e)⟩
  | bool b => exact ⟨fun e => (by cases e), fun e => (by cases e)⟩
  | str s => exact ⟨fun e => (by cases e), fun e => (by cases e)⟩
  | byt hg hc hf => exact ⟨fun _ => ⟨_, rfl, hg, hc, hf⟩, fun e => (by cases e)⟩
  | row hg hc hf hs => exact ⟨fun e => (by cases e), fun _ => ⟨_, rfl, hg, hc, hf, hs⟩⟩
theorem Dug.mk {w w' : World} {lo : Nat → Prop} {x : Tr} (h : Dug w lo x) (hm : Mk lo w w') : Dug w' lo x := by
  induction h using Dug.elim with
  | int n => exact .int n
  | bool b => exact .bool b
  | str s => exact .str s
  | byt hg hc hf =>
    refine .byt hg (fun i hi => ?_) (fun o => (hm.free _).trans (hf o)); obtain ⟨v, hv⟩ := hc i hi; obtain ⟨v', h1, h2⟩ := hm.cell _ _ hv
    rcases h2 with rfl | ⟨k, n, n', e, rfl⟩ | ⟨x, y, e, _⟩ | ⟨x, y, e, _⟩
    · exact ⟨v, h1⟩
    · cases e; exact ⟨n', h1⟩
    · cases e
    · cases e
  | row hg hc hf _ ih =>
    refine .row hg (fun i j e y hi hj => ?_) (fun o => (hm.free _).trans (hf o)) ih; obtain ⟨v, hv, ha⟩ := hc i j e y hi hj; obtain ⟨v', h1, h2⟩ := hm.cell _ _ hv; exact ⟨v', h1, ha.trans h2⟩
theorem Made.dugAt {w0 w : World} {l : Nat} {x : Tr} (h : Made w0 l x) (hG : w0.grownBy w none) : Dug w (fun k => l ≤ k ∧ k < w0.heap.size) x := by
  induction h using Made.elim with
  | int h => exact .int _
  | bool b => exact .bool b
  | str h => exact .str _
  | @byt d g cp hg hb h _ =>
    exact .byt ⟨hg, h.lt⟩ (fun i hi => ⟨_, ((bcell hG).1 _ _ h.lt).trans (h.cell i hi)⟩) (fun o => ((bcell hG).2 _ _ h.lt).trans (h.free o))
  | @row m g cp L hg hlt hb hl hc hf _ ih =>
    refine .row ⟨hg, hlt⟩ (fun i j e y hi hj => ⟨y.cell, ?_, .inl rfl⟩) (fun o => ((bcell hG).2 _ _ hlt).trans (hf o)) ih; exact ((bcell hG).1 _ _ hlt).trans (hc i e hi j _ (by rw [List.getElem?_map, hj]; rfl))
theorem Dug.place {w : World} {lo : Nat → Prop} {m p : Nat} {a : Option Addr} {L : List (List Tr)} (h : Dug w lo (.row m a p L)) : ∃ g, a = some ⟨g, 0, none⟩ := by
  obtain ⟨g, h, -⟩ := h.inv.2 rfl; exact ⟨g, h⟩
theorem Dug.low {w : World} {lo : Nat → Prop} {m p g : Nat} {L : List (List Tr)} (h : Dug w lo (.row m (some ⟨g, 0, none⟩) p L)) : lo g := by
  obtain ⟨g', h0, h1, -⟩ := h.inv.2 rfl
  cases h0
  exact h1
theorem Dug.sub {w : World} {lo : Nat → Prop} {m p g : Nat} {L : List (List Tr)} (h : Dug w lo (.row m (some ⟨g, 0, none⟩) p L)) (i j : Nat) (e : List Tr) (y : Tr) (hi : L[i]? = some e) (hj : e[j]? = some y) : Dug w lo y := by
  obtain ⟨g', h0, -, -, -, h4⟩ := h.inv.2 rfl
  cases h0
  exact h4 i j e y hi hj
/-- what is known of a cell, in every later world -/
def CellIs (w : World) (a : Addr) (v : Value) : Prop := (∃ u, w.cell? a = some u ∧ alike v u) ∧ w.frozen? a = false
theorem Dug.cell {w : World} {lo : Nat → Prop} {m p g : Nat} {L : List (List Tr)} (h : Dug w lo (.row m (some ⟨g, 0, none⟩) p L)) (i j : Nat) (e : List Tr) (y : Tr) (hi : L[i]? = some e) (hj : e[j]? = some y) : CellIs w ⟨g, i * m + j, none⟩ y.cell := by
  obtain ⟨g', h0, -, h2, h3, -⟩ := h.inv.2 rfl
  cases h0
  exact ⟨h2 i j e y hi hj, h3 _⟩
theorem CellIs.int {w X : World} {lo : Nat → Prop} {a : Addr} {n : Int} (h : CellIs w a (Tr.int n).cell) (hX : Mk lo w X) : ∃ u : Int, X.cell? a = some (.int .i64 u) ∧ X.frozen? a = false := by
  obtain ⟨⟨u, hu, ha⟩, hf⟩ := h; obtain ⟨u', hu', ha'⟩ := hX.cell _ _ hu; have h2 := ha.trans ha'
  rcases h2 with rfl | ⟨k, n, n', e, rfl⟩ | ⟨x, y, e, _⟩ | ⟨x, y, e, _⟩
  · exact ⟨n, hu', (hX.free a).trans hf⟩
  · cases e; exact ⟨n', hu', (hX.free a).trans hf⟩
  · cases e
  · cases e
theorem CellIs.bool {w X : World} {lo : Nat → Prop} {a : Addr} {n : Bool} (h : CellIs w a (Tr.bool n).cell) (hX : Mk lo w X) : ∃ u : Bool, X.cell? a = some (.bool u) ∧ X.frozen? a = false := by
  obtain ⟨⟨u, hu, ha⟩, hf⟩ := h; obtain ⟨u', hu', ha'⟩ := hX.cell _ _ hu; have h2 := ha.trans ha'
  rcases h2 with rfl | ⟨k, n, n', e, rfl⟩ | ⟨x, y, e, rfl⟩ | ⟨x, y, e, _⟩
  · exact ⟨n, hu', (hX.free a).trans hf⟩
  · cases e
  · cases e; exact ⟨y, hu', (hX.free a).trans hf⟩
  · cases e
theorem CellIs.str {w X : World} {lo : Nat → Prop} {a : Addr} {n : ByteArray} (h : CellIs w a (Tr.str n).cell) (hX : Mk lo w X) : ∃ u : ByteArray, X.cell? a = some (.string u) ∧ X.frozen? a = false := by
  obtain ⟨⟨u, hu, ha⟩, hf⟩ := h; obtain ⟨u', hu', ha'⟩ := hX.cell _ _ hu; have h2 := ha.trans ha'
  rcases h2 with rfl | ⟨k, n, n', e, rfl⟩ | ⟨x, y, e, _⟩ | ⟨x, y, e, rfl⟩
  · exact ⟨n, hu', (hX.free a).trans hf⟩
  · cases e
  · cases e
  · cases e; exact ⟨y, hu', (hX.free a).trans hf⟩
theorem CellIs.slice {w X : World} {lo : Nat → Prop} {len p : Nat} {a : Addr} {o : Option Addr} (h : CellIs w a (.slice o len p)) (hX : Mk lo w X) : X.cell? a = some (.slice o len p) := by
  obtain ⟨⟨u, hu, ha⟩, hf⟩ := h; obtain ⟨u', hu', ha'⟩ := hX.cell _ _ hu; have h2 := ha.trans ha'
  rcases h2 with rfl | ⟨k, n, n', e, _⟩ | ⟨x, y, e, _⟩ | ⟨x, y, e, _⟩
  · exact hu'
  · cases e
  · cases e
  · cases e
theorem Fits.els {m p : Nat} {a : Option Addr} {L : List (List Tr)} {ks : List Ki} (h : Fits (.row m a p L) (.row ks)) : ∀ (i : Nat) (e : List Tr), L[i]? = some e → FitsL e ks := fun i e hi => ⟨h.isRowL.1 i e hi, fun j y k hj hk => h.isRowL.2 i j e y k hi hj hk⟩
set_option maxHeartbeats 800000 in
theorem markByteS_dug (d : List Nat) (a : Option Addr) (p k0 : Nat) (lo : Nat → Prop) (w : World) (h : Dug w lo (.byt d a p)) (s : k0 + 32 * d.length ≤ 1073741824) :
    Calls Tryz.prog 24 #[.slice a d.length p, .int .i64 (k0 : Int)] w fun e w' => ∃ v : Nat, e = .returned (.int .i64 (v : Int)) ∧ v ≤ k0 + 32 * d.length ∧ Mk lo w w' := by
  obtain ⟨g, ha, hg, hc, hf⟩ := h.inv.1 rfl
  replace ha : a = some ⟨g, 0, none⟩ := ha
  replace hc : ∀ i, i < d.length → ∃ v, w.cell? ⟨g, i, none⟩ = some (.int .u8 v) := hc
  subst ha; clear h; obtain ⟨n, hn⟩ : ∃ n, d.length = n := ⟨_, rfl⟩; rw [hn] at s hc ⊢; have HC : Hid (lo g ∧ (∀ i, i < n → ∃ v, w.cell? ⟨g, i, none⟩ = some (.int .u8 v)) ∧ ∀ o, w.frozen? ⟨g, o, none⟩ = false) := ⟨hg, hc, hf⟩; clear hg hc hf hn
  go_enter Tryz.func24, Tryz.ntmps24
  go_wp2
  go_loopw [1, 5] (fun v i wr => ∃ k : Nat, k ≤ n ∧ i = .int .i64 k ∧ v = .int .i64 ((k0 : Int) + k) ∧ Mk lo w wr) (fun _ i _ => n - (intOf i).toNat)
  case atStart => exact ⟨0, Nat.zero_le _, rfl, by go_num, Mk.refl _ _⟩
  case round =>
    obtain ⟨k, hk, rfl, rfl, hM⟩ := hrel
    by_cases hlt : k < n
    · obtain ⟨v, hv⟩ := HC.out.2.1 k hlt; obtain ⟨v', hcw, ha⟩ := hM.cell _ _ hv; have hfz : wr.frozen? ⟨g, k, none⟩ = false := (hM.free _).trans (HC.out.2.2 k)
      obtain ⟨u, rfl⟩ : ∃ u, v' = .int .u8 u := by
        rcases ha with rfl | ⟨q, n, n', e, rfl⟩ | ⟨x, y, e, _⟩ | ⟨x, y, e, _⟩
        · exact ⟨v, rfl⟩
        · cases e; exact ⟨n', rfl⟩
        · cases e
        · cases e
      have R : Hid (Mk lo w (wr.setCell ⟨g, k, none⟩ (.int .u8 (((k0 : Int) + k) % 256)))) := hM.set HC.out.1 hcw (.inr (.inl ⟨_, _, _, rfl, rfl⟩)); clear hM hv ha; go_wp2; go_roundw
      case rel => exact ⟨k + 1, by omega, by go_num, by go_num, R.out⟩
      case measure => simp [intOf]; omega
    · obtain rfl : k = n := by omega
      have R : Hid (Mk lo w wr) := hM; clear hM; go_wp2; go_ret; exact ⟨k0 + k, by go_num, by omega, R.out⟩
theorem calls_argsW {P : Program} {f : FuncId} {args args' : Array Value} {w : World} {Q : Ending → World → Prop} (h : args' = args) (k : Calls P f args w Q) : Calls P f args' w Q := by rw [h]; exact k
theorem byte_lit (w : World) (r : Nat) (hr : r < 256) (e : TypeId) : SlB (w.alloc (.cells #[.int .u8 (r : Int)] e)) (some ⟨w.heap.size, 0, none⟩) 1 [r] := by
  refine ⟨rfl, by simpa using hr, fun _ => ⟨w.heap.size, 0, rfl, fun i hi => ?_⟩⟩
  obtain rfl : i = 0 := by omega
  simp
set_option maxRecDepth 4000 in
set_option maxHeartbeats 1000000 in
theorem markText_any (k : Nat) (hk : k ≤ 1073741824) (w : World) :
    Calls Tryz.prog 23 #[.int .i64 (k : Int)] w fun e w' => ∃ s : ByteArray, e = .returned (.string s) ∧ w.grownBy w' none := by
  go_enter Tryz.func23, Tryz.ntmps23
  by_cases h0 : k = 0
  · subst h0; go_wp2; go_ret; exact ⟨_, rfl, grownBy_refl _ _⟩
  · have hkp : ¬ ((k : Int) ≤ 0) := by omega
    go_wp2
    go_loopw [0, 3] (fun v s wr => ∃ (x : Nat) (t : ByteArray), t.size + x ≤ k ∧ v = .int .i64 (x : Int) ∧ s = .string t ∧ w.grownBy wr none) (fun v _ _ => (intOf v).toNat)
    case atStart => exact ⟨k, _, Nat.le_of_eq (Nat.zero_add _), rfl, rfl, grownBy_refl _ _⟩
    case round =>
      obtain ⟨x, t, hx, rfl, rfl, hG⟩ := hrel; have HG : Hid (w.grownBy wr none) := hG; clear hG
      by_cases hx0 : 0 < x
      · have hxI : (0 : Int) < (x : Int) := by omega
        have hz : ((48 + x % 10 : Nat) : Int) = 48 + (x : Int) % 10 := by omega
        have kc : (convert 37 9 (.slice (some ⟨wr.heap.size, 0, none⟩) 1 1)).run Tryz.prog (wr.alloc (.cells #[.int .u8 (48 + (x : Int) % 10)] 5)) = .ok (.string (strB [48 + x % 10])) (wr.alloc (.cells #[.int .u8 (48 + (x : Int) % 10)] 5)) := by
          rw [← hz]; exact run_str_b _ Tryz.underlying37 Tryz.underlying5 Tryz.underlying9 (byte_lit wr (48 + x % 10) (by omega) _) 1
        have hs1 : (strB [48 + x % 10]).size = 1 := by rw [strB_size]; rfl
        have hts : t.size ≤ 1073741824 := by omega
        generalize strB [48 + x % 10] = q at hs1 kc; clear hz; go_wp2; go_roundw
        case rel => exact ⟨x / 10, q ++ t, by rw [ByteArray.size_append, hs1]; omega, by go_num, rfl, grownBy_alloc HG.out _⟩
        case measure => simp [intOf]; omega
      · obtain rfl : x = 0 := by omega
        have hts : t.size ≤ 1073741824 := by omega
        go_wp2; go_ret; exact ⟨_, rfl, HG.out⟩
/-- as Mk, and the memory may grow -/
structure MkW (lo : Nat → Prop) (w w' : World) : Prop where
  os : w'.os = w.os
  tape : w'.tape = w.tape
  output : w'.output = w.output
  size : w.heap.size ≤ w'.heap.size
  below : ∀ k, k < w.heap.size → ¬ lo k → w'.heap[k]? = w.heap[k]?
  cell : ∀ a v, w.cell? a = some v → ∃ v', w'.cell? a = some v' ∧ alike v v'
  free : ∀ a, a.block < w.heap.size → w'.frozen? a = w.frozen? a
theorem MkW.refl (lo : Nat → Prop) (w : World) : MkW lo w w := ⟨rfl, rfl, rfl, Nat.le_refl _, fun _ _ _ => rfl, fun _ v h => ⟨v, h, .inl rfl⟩, fun _ _ => rfl⟩
theorem MkW.trans {lo : Nat → Prop} {a b c : World} (h : MkW lo a b) (k : MkW lo b c) : MkW lo a c :=
  ⟨k.os.trans h.os, k.tape.trans h.tape, k.output.trans h.output, Nat.le_trans h.size k.size, fun i hi hT => (k.below i (Nat.lt_of_lt_of_le hi h.size) hT).trans (h.below i hi hT), fun x v hv => by
    obtain ⟨v1, h1, a1⟩ := h.cell x v hv; obtain ⟨v2, h2, a2⟩ := k.cell x v1 h1
    exact ⟨v2, h2, a1.trans a2⟩, fun x hx => (k.free x (Nat.lt_of_lt_of_le hx h.size)).trans (h.free x hx)⟩
theorem Mk.w {lo : Nat → Prop} {w w' : World} (h : Mk lo w w') : MkW lo w w' := ⟨h.os, h.tape, h.output, Nat.le_of_eq h.size.symm, fun k _ hT => h.below k hT, h.cell, fun a _ => h.free a⟩
theorem MkW.of_grown {lo : Nat → Prop} {w w' : World} (h : w.grownBy w' none) : MkW lo w w' :=
  ⟨h.os, h.tape, h.output, h.size, fun k hk _ => h.block k hk (by simp), fun a v hv => ⟨v, (World.cell?_of_block (h.block a.block (cell_block_lt hv) (by simp))).trans hv, .inl rfl⟩, fun a ha => World.frozen?_of_block (h.block a.block ha (by simp))⟩
theorem MkW.only {lo : Nat → Prop} {w w' : World} (h : MkW lo w w') : OnlyW lo w w' := ⟨h.os, h.tape, h.output, h.size, h.below⟩
theorem Dug.mkW {w w' : World} {lo : Nat → Prop} (hlo : ∀ k, lo k → k < w.heap.size) {x : Tr} (h : Dug w lo x) (hm : MkW lo w w') : Dug w' lo x := by
  induction h using Dug.elim with
  | int n => exact .int n
  | bool b => exact .bool b
  | str s => exact .str s
  | @byt d g cp hg hc hf =>
    refine .byt hg (fun i hi => ?_) (fun o => (hm.free _ (hlo g hg)).trans (hf o)); obtain ⟨v, hv⟩ := hc i hi; obtain ⟨v', h1, h2⟩ := hm.cell _ _ hv
    rcases h2 with rfl | ⟨k, n, n', e, rfl⟩ | ⟨x, y, e, _⟩ | ⟨x, y, e, _⟩
    · exact ⟨v, h1⟩
    · cases e; exact ⟨n', h1⟩
    · cases e
    · cases e
  | @row m g cp L hg hc hf _ ih =>
    refine .row hg (fun i j e y hi hj => ?_) (fun o => (hm.free _ (hlo g hg)).trans (hf o)) ih; obtain ⟨v, hv, ha⟩ := hc i j e y hi hj; obtain ⟨v', h1, h2⟩ := hm.cell _ _ hv; exact ⟨v', h1, ha.trans h2⟩
set_option maxRecDepth 4000 in
set_option maxHeartbeats 2000000 in
theorem markFileS_any (L : List (List Tr)) (a : Option Addr) (p k0 : Nat) (lo : Nat → Prop) (w : World) (hlo : ∀ k, lo k → k < w.heap.size) (h : Dug w lo (.row kFile.length a p L)) (hf : Fits (.row kFile.length a p L) (.row kFile)) (s : k0 + 32 * totR L ≤ 1073741824) :
    Calls Tryz.prog 10 #[.slice a L.length p, .int .i64 (k0 : Int)] w fun e w' => ∃ v : Nat, e = .returned (.int .i64 (v : Int)) ∧ v ≤ k0 + 32 * totR L ∧ OnlyW lo w w' := by
  obtain ⟨G, rfl⟩ := h.place; have hnt : L.length ≤ totR L := totR_len L; have HD : Hid (Dug w lo (.row kFile.length (some ⟨G, 0, none⟩) p L) ∧ (∀ (i : Nat) (e : List Tr), L[i]? = some e → FitsL e kFile) ∧ k0 + 32 * totR L ≤ 1073741824 ∧ ∀ k, lo k → k < w.heap.size) := ⟨h, hf.els, s, hlo⟩; obtain ⟨n, hn⟩ : ∃ n, L.length = n := ⟨_, rfl⟩; have HN : Hid (L.length = n) := hn; rw [hn] at hnt ⊢
  have hnb : n ≤ 1073741824 := by omega
  clear h hf s hlo hn hnt
  go_enter Tryz.func10, Tryz.ntmps10
  go_wp2
  go_loopw [1, 5] (fun q i wr => ∃ k v : Nat, k ≤ n ∧ i = .int .i64 (k : Int) ∧ q = .int .i64 (v : Int) ∧ v + 32 * n ≤ k0 + 32 * k + 32 * totTo L k ∧ MkW lo w wr) (fun _ i _ => n - (intOf i).toNat)
  case atStart => exact ⟨0, k0, Nat.zero_le _, rfl, rfl, by rw [totTo_zero, HN.out]; omega, MkW.refl _ _⟩
  case round =>
    obtain ⟨k, v, hk, rfl, rfl, hv, hM⟩ := hrel; have HM : Hid (MkW lo w wr ∧ v + 32 * n ≤ k0 + 32 * k + 32 * totTo L k) := ⟨hM, hv⟩; clear hM hv
    by_cases hlt : k < n
    · obtain ⟨e, he⟩ : ∃ e, L[k]? = some e := ⟨_, List.getElem?_eq_getElem (by rw [HN.out]; exact hlt)⟩; obtain ⟨t0, d1, a1, p1, rfl⟩ := fitFile (HD.out.2.1 k e he)
      have hT : totTo L (k + 1) = totTo L k + (t0.size + d1.length) := by
        rw [totTo_succ he]; simp only [List.map_cons, List.map_nil, tdEl]
        omega
      have hle := totTo_le L (k + 1); have HV : Hid (totTo L (k + 1) = totTo L k + (t0.size + d1.length)) := hT
      have hvb : v + 32 + 32 * d1.length ≤ 1073741824 := by have h1 := HM.out.2; have h2 := HD.out.2.2.1; omega
      clear hT hle
      have hlk : ∀ {X : World}, MkW lo w X → ∀ k, lo k → k < X.heap.size := fun hX k hk => Nat.lt_of_lt_of_le (HD.out.2.2.2 k hk) hX.size
      have HK : Hid (∀ X : World, MkW lo w X → (∃ u : ByteArray, X.cell? ⟨G, k * 2, none⟩ = some (.string u) ∧ X.frozen? ⟨G, k * 2, none⟩ = false) ∧ X.cell? ⟨G, k * 2 + 1, none⟩ = some (.slice a1 d1.length p1) ∧ Dug X lo (.byt d1 a1 p1)) := fun X hX => by
        have hDX := HD.out.1.mkW HD.out.2.2.2 hX; exact ⟨(hDX.cell k 0 _ _ he rfl).str (Mk.refl lo X), (hDX.cell k 1 _ _ he rfl).slice (Mk.refl lo X), hDX.sub k 1 _ _ he rfl⟩
      have HG : Hid (lo G) := HD.out.1.low; clear he; obtain ⟨dl, hdl⟩ : ∃ dl, d1.length = dl := ⟨_, rfl⟩; have HDL : Hid (d1.length = dl) := hdl; rw [hdl] at hvb HK HV; clear hdl
      have hkI : (k : Int) < (n : Int) := by omega
      go_wp2_with fail; refine (markText_any v (by omega) _).mono ?_; rintro ee w1 ⟨s1, rfl, hG1⟩; have H1 : Hid (MkW lo w w1) := HM.out.1.trans (MkW.of_grown hG1); obtain ⟨⟨u0, q0, f0⟩, -, -⟩ := HK.out w1 H1.out; clear hG1
      go_upto_region 5 with fail
      have H2 : Hid (MkW lo w (w1.setCell ⟨G, k * 2, none⟩ (.string s1))) := H1.out.trans ((Mk.refl lo w1).setS ⟨u0, q0, f0⟩ HG.out s1).w; generalize w1.setCell ⟨G, k * 2, none⟩ (.string s1) = X at H2 ⊢; obtain ⟨-, q1, -⟩ := HK.out X H2.out; obtain ⟨v1, hv1⟩ : ∃ v1, v + 1 = v1 := ⟨_, rfl⟩
      have hvI : (v : Int) + 1 = (v1 : Int) := by omega
      have HV1 : Hid (v + 1 = v1) := hv1
      have hvb1 : v1 + 32 * dl ≤ 1073741824 := by omega
      clear hv1 q0 f0; go_wp2_with fail; clear hvI; refine calls_argsW (args := #[.slice a1 d1.length p1, .int .i64 (v1 : Int)]) (by rw [HDL.out]) ?_; refine (markByteS_dug d1 a1 p1 v1 lo X (HK.out X H2.out).2.2 (by rw [HDL.out]; exact hvb1)).mono ?_; rintro ee w3 ⟨v3, rfl, hv3, hM3⟩; rw [HDL.out] at hv3; have H3 : Hid (MkW lo w w3 ∧ v3 + 32 * n ≤ k0 + 32 * (k + 1) + 32 * totTo L (k + 1)) := ⟨H2.out.trans hM3.w, by have h1 := HM.out.2; have h2 := HV.out; have h3 := HV1.out; omega⟩
      have hv3b : v3 ≤ 1073741824 := by omega
      clear hM3 hv3 q1; go_wp2; go_roundw
      case rel => exact ⟨k + 1, v3, by omega, by go_num, rfl, H3.out.2, H3.out.1⟩
      case measure => simp [intOf]; omega
    · obtain rfl : k = n := by omega
      go_wp2; go_ret; refine ⟨v, rfl, ?_, HM.out.1.only⟩; have h1 := HM.out.2; rw [← HN.out, totTo_all] at h1
      omega
theorem finE_le {E : List En} {b : Nat} (h : ∀ e ∈ E, e.n ≤ b) (m : Nat) : ∀ k, finE E m k ≤ m + (b + 1) * k
  | 0 => by simp [finE]
  | k + 1 => by
    have h1 := finE_le h m k
    have h2 : (E[k]?.map En.n).getD 0 ≤ b := by
      cases hk : E[k]? with
      | none => simp
      | some e => simp; exact h e (List.mem_of_getElem? hk)
    rw [finE, Nat.mul_add, Nat.mul_one]
    omega
theorem fin_le {F : List Pf} {v : Wv} (ho : v.tell = walTell F) (hs : WvSm v) : v.fin 1 ≤ 1073741824 := by
  have hcase : v.E.length ≤ 1000000 ∧ ∀ e ∈ v.E, e.n ≤ 128 := by
    have hE : v.E.map En.tell = (walTell F).2.2.2.1 := by rw [← ho]; rfl
    have hl : v.E.length = (walTell F).2.2.2.1.length := by rw [← hE, List.length_map]
    rcases hok : okImg F with _ | _
    · rw [walTell_no hok] at hE hl; have h0 : v.E = [] := List.eq_nil_of_length_eq_zero hl; rw [h0]; exact ⟨by simp, by simp⟩
    · rcases hw : walP F with _ | ⟨p, ns, kp, dr⟩
      · rw [walTell_bad hok hw] at hE hl; have h0 : v.E = [] := List.eq_nil_of_length_eq_zero hl; rw [h0]; exact ⟨by simp, by simp⟩
      · rw [walTell_ok hok hw] at hE hl; have hp := walP_plok hw; have h1 := hp.last; refine ⟨by simp only at hl; omega, fun e he => ?_⟩
        have h2 : En.tell e ∈ p.es := by
          simp only at hE; rw [← hE]; exact List.mem_map_of_mem he
        have h3 := (hp.each _ h2).2; have h4 := En.dlen (hs.each e he).2.2; simp only [En.tell] at h3
        omega
  have h1 := finE_le hcase.2 1 v.E.length; have h2 := hs.slen; have h3 := hcase.1
  unfold Wv.fin
  omega
theorem WvAt.lt {w : World} {v : Wv} (h : WvAt w v) {k : Nat} (hk : v.blk k) : k < w.heap.size := by
  rcases hk with ⟨a, h1, rfl⟩ | hk | ⟨a, h1, rfl⟩
  · obtain ⟨-, ⟨h3, -⟩ | ⟨G, h3, h4⟩⟩ := h.en
    · rw [h3] at h1; cases h1
    · rw [h3] at h1; obtain rfl := Option.some.inj h1; exact h4.lt
  · obtain ⟨-, ⟨-, h4⟩ | ⟨G, -, h4⟩⟩ := h.en
    · rw [h4] at hk; simp at hk
    · obtain ⟨e, he, rfl⟩ := List.mem_map.1 hk; exact (h4.own e he).1.lt
  · obtain ⟨-, ⟨h3, -⟩ | ⟨G, h3, h4⟩⟩ := h.se
    · rw [h3] at h1; cases h1
    · rw [h3] at h1; obtain rfl := Option.some.inj h1; exact h4.lt
theorem WvAt.kept {w w' : World} {v : Wv} (h : WvAt w v) (hk : ∀ k, v.blk k → w'.heap[k]? = w.heap[k]?) : WvAt w' v := by
  refine ⟨?_, ?_⟩
  · obtain ⟨hl, h0 | ⟨G, hG, hR⟩⟩ := h.en
    · exact ⟨hl, .inl h0⟩
    · refine ⟨hl, .inr ⟨G, hG, hR.kept (fun k hk' => ?_)⟩⟩
      rcases hk' with rfl | hk'
      · exact hk _ (.inl ⟨_, hG, rfl⟩)
      · exact hk _ (.inr (.inl hk'))
  · exact inS_keep h.se (fun G hG => hk G (.inr (.inr ⟨_, hG, rfl⟩)))
theorem WvAt.only {w w' : World} {v : Wv} {T : Nat → Prop} (h : WvAt w v) (ho : OnlyW T w w') (hT : ∀ k, v.blk k → ¬ T k) : WvAt w' v := h.kept (fun k hk => ho.block k (h.lt hk) (hT k hk))
theorem marked_val (v : Wv) (m : Nat) : (v.marked m).val = v.val := by simp [Wv.val, Wv.marked, mkE_len, mkI_len]
theorem szByteS_any (a : Option Addr) (len p m : Nat) (w : World) (hb : len ≤ maxLen) (hm : m ≤ 1048576) :
    Calls Tryz.prog 29 #[.slice a len p, .int .i64 (m : Int)] w fun e w' => ∃ v : Int, e = .returned (.int .i64 v) ∧ ((len ≤ m ∧ v = (m : Int) - ((len : Nat) : Int)) ∨ (m < len ∧ v = -1)) ∧ w.grownBy w' none := by
  rcases Nat.lt_or_ge m len with h | h
  · refine (szByteS_big a len p m w h (by omega) hb).mono ?_; rintro e w' ⟨rfl, rfl⟩; exact ⟨_, rfl, .inr ⟨h, rfl⟩, grownBy_refl _ _⟩
  · refine (szByteS_ok a len p m w h (by omega)).mono ?_; rintro e w' ⟨rfl, rfl⟩; exact ⟨_, rfl, .inl ⟨h, rfl⟩, grownBy_refl _ _⟩
set_option maxRecDepth 4000 in
set_option maxHeartbeats 4000000 in
theorem szFile_any (t0 : ByteArray) (d1 : List Nat) (a1 : Option Addr) (p1 : Nat) (m : Nat) (w : World) (b0 : t0.size ≤ maxLen) (b1 : d1.length ≤ maxLen) (hm : m ≤ 1048576) :
    Calls Tryz.prog 13 #[.agg #[.string t0, .slice a1 d1.length p1], .int .i64 (m : Int)] w fun e w' => ∃ v : Int, e = .returned (.int .i64 v) ∧ ((t0.size + d1.length ≤ m ∧ v = (m : Int) - ((t0.size + d1.length : Nat) : Int)) ∨ (m < t0.size + d1.length ∧ v = -1)) ∧ w.grownBy w' none := by
  obtain ⟨N, hN⟩ : ∃ N, t0.size = N := ⟨_, rfl⟩; obtain ⟨D, hD⟩ : ∃ D, d1.length = D := ⟨_, rfl⟩
  have HB : Hid (D ≤ maxLen) := by rw [← hD]; exact b1
  have hNb : N ≤ 9223372036854775807 := by unfold maxLen at b0; omega
  rw [hN, hD]; clear b0 b1 hD
  by_cases hs : N ≤ m
  · obtain ⟨z, hz⟩ : ∃ z, m - N = z := ⟨_, rfl⟩
    have hzI : (m : Int) - (N : Int) = (z : Int) := by omega
    have HZ : Hid (m - N = z ∧ N ≤ m) := ⟨hz, hs⟩
    have hzb : z ≤ 1048576 := by omega
    clear hz hs
    have hzn : ¬ ((m : Int) - (N : Int) < 0) := by omega
    go_enter Tryz.func13, Tryz.ntmps13
    go_wp2_with fail; clear hzn hzI; refine (szByteS_any a1 D p1 z _ HB.out hzb).mono ?_; rintro e w1 ⟨v, rfl, hv, hG⟩; have HG : Hid (w.grownBy w1 none) := grownBy_trans (World.grownBy_alloc _ _ _) hG; clear hG
    rcases hv with ⟨hle, rfl⟩ | ⟨hgt, rfl⟩
    · obtain ⟨y, hy⟩ : ∃ y, z - D = y := ⟨_, rfl⟩
      have hyI : (z : Int) - (D : Int) = (y : Int) := by omega
      have HY : Hid (z - D = y ∧ D ≤ z) := ⟨hy, hle⟩; rw [hyI]; clear hy hyI hle; go_wp2; go_ret; exact ⟨_, rfl, .inl ⟨by have h1 := HZ.out; have h2 := HY.out; omega, by have h1 := HZ.out; have h2 := HY.out; omega⟩, HG.out⟩
    · have HY : Hid (z < D) := hgt; clear hgt; go_wp2; go_ret; exact ⟨-1, rfl, .inr ⟨by have h1 := HZ.out; have h2 := HY.out; omega, rfl⟩, HG.out⟩
  · have hlt : (m : Int) - (N : Int) < 0 := by omega
    go_enter Tryz.func13, Tryz.ntmps13
    go_wp2; go_ret; exact ⟨-1, rfl, .inr ⟨by omega, rfl⟩, World.grownBy_alloc _ _ _⟩
set_option maxRecDepth 4000 in
set_option maxHeartbeats 4000000 in
theorem szFileS_any (L : List (List Tr)) (a : Option Addr) (p m : Nat) (w : World) (h : RowOk w kFile a L) (hb : L.length ≤ maxLen) (hm : m ≤ 1048576) :
    Calls Tryz.prog 4 #[.slice a L.length p, .int .i64 (m : Int)] w fun e w' => ∃ v : Int, e = .returned (.int .i64 v) ∧ ((totR L ≤ m ∧ v = (m : Int) - ((totR L : Nat) : Int)) ∨ (m < totR L ∧ v = -1)) ∧ w.grownBy w' none := by
  have HR : Hid (RowOk w kFile a L) := h
  unfold maxLen at hb
  clear h; obtain ⟨n, hn⟩ : ∃ n, L.length = n := ⟨_, rfl⟩; have HN : Hid (L.length = n) := hn; rw [hn] at hb ⊢; clear hn
  by_cases hbig : m < n
  · have HB : Hid (m < totR L) := by have := totR_len L; have h2 := HN.out; show m < totR L; omega
    go_enter Tryz.func4, Tryz.ntmps4
    go_wp2; go_ret; exact ⟨-1, rfl, .inr ⟨HB.out, rfl⟩, grownBy_refl _ _⟩
  have H0 : Hid (totTo L 0 = n) := by show _ = _; rw [totTo_zero]; exact HN.out
  go_enter Tryz.func4, Tryz.ntmps4
  go_wp2
  go_loopw [1, 5] (fun q i wr => ∃ k : Nat, k ≤ n ∧ i = .int .i64 (k : Int) ∧ q = .int .i64 ((m : Int) - (totTo L k : Int)) ∧ totTo L k ≤ m ∧ w.grownBy wr none) (fun _ i _ => n - (intOf i).toNat)
  case atStart => exact ⟨0, Nat.zero_le _, rfl, by rw [H0.out], by rw [H0.out]; omega, grownBy_refl _ _⟩
  case round =>
    obtain ⟨k, hk, rfl, rfl, hle, hG⟩ := hrel; have HG : Hid (w.grownBy wr none) := hG; clear hG
    by_cases hlt : k < n
    · obtain ⟨e, he⟩ : ∃ e, L[k]? = some e := ⟨_, List.getElem?_eq_getElem (by rw [HN.out]; exact hlt)⟩; have HS : Hid (totTo L (k + 1) = totTo L k + tdEl (e.map Tr.tell) ∧ totTo L (k + 1) ≤ totR L) := ⟨totTo_succ he, totTo_le L _⟩; obtain ⟨hf, hrd, b, off, hab, hc⟩ := HR.out.grown0 HG.out k e he; obtain ⟨t0, d1, a1, p1, rfl⟩ := fitFile hf
      have HT : Hid (tdEl (List.map Tr.tell [.str t0, .byt d1 a1 p1]) = t0.size + d1.length) := by show _ = _; simp only [List.map_cons, List.map_nil, tdEl]; omega
      subst hab; have c0 : wr.cell? ⟨b, off + k * 2, none⟩ = some (.string t0) := hc 0 _ rfl; have c1 : wr.cell? ⟨b, off + k * 2 + 1, none⟩ = some (.slice a1 d1.length p1) := hc 1 _ rfl; obtain ⟨z, hz⟩ : ∃ z, m - totTo L k = z := ⟨_, rfl⟩
      have hzI : (m : Int) - (totTo L k : Int) = (z : Int) := by omega
      have HM : Hid (m - totTo L k = z ∧ totTo L k ≤ m) := ⟨hz, hle⟩
      have hzb : z ≤ 1048576 := by omega
      have HK : Hid (∀ X : World, wr.grownBy X none → Calls Tryz.prog 13 #[.agg #[.string t0, .slice a1 d1.length p1], .int .i64 (z : Int)] X fun e w' => ∃ v : Int, e = .returned (.int .i64 v) ∧ ((t0.size + d1.length ≤ z ∧ v = (z : Int) - ((t0.size + d1.length : Nat) : Int)) ∨ (z < t0.size + d1.length ∧ v = -1)) ∧ X.grownBy w' none) := fun X hs => szFile_any t0 d1 a1 p1 z X ((hrd (.str t0) (by simp)).isStr) ((hrd (.byt d1 a1 p1) (by simp)).lenB) hzb
      rw [hzI]; clear hz hzI hle hc hrd hf he
      have hkI : (k : Int) < (n : Int) := by omega
      go_wp2_with fail; refine (HK.out _ (grownBy_refl _ _)).mono ?_; rintro e w1 ⟨v, rfl, hv, hG1⟩; have HG1 : Hid (w.grownBy w1 none) := grownBy_trans HG.out hG1; clear hG1
      rcases hv with ⟨hle, rfl⟩ | ⟨hgt, rfl⟩
      · obtain ⟨y, hy⟩ : ∃ y, z - (t0.size + d1.length) = y := ⟨_, rfl⟩
        have hyI : (z : Int) - ((t0.size + d1.length : Nat) : Int) = (y : Int) := by omega
        have HYY : Hid (z - (t0.size + d1.length) = y ∧ t0.size + d1.length ≤ z) := ⟨hy, hle⟩
        have hyb : y ≤ 1048576 := by omega
        rw [hyI]; clear hy hyI hle; go_wp2; go_roundw
        case rel => exact ⟨k + 1, by omega, by go_num, by have h1 := HS.out.1; rw [HT.out] at h1; have h2 := HM.out; have h3 := HYY.out; congr 1; omega, by have h1 := HS.out.1; rw [HT.out] at h1; have h2 := HM.out; have h3 := HYY.out; omega, HG1.out⟩
        case measure => simp [intOf]; omega
      · have HX : Hid (z < t0.size + d1.length) := hgt; clear hgt; go_wp2; go_ret; exact ⟨-1, rfl, .inr ⟨by have h1 := HS.out; rw [HT.out] at h1; have h2 := HM.out; have h3 := HX.out; omega, rfl⟩, HG1.out⟩
    · obtain rfl : k = n := by omega
      have HT : Hid (totTo L k = totR L) := by show _ = _; rw [← totTo_all, HN.out]
      obtain ⟨t, ht⟩ : ∃ t, totTo L k = t := ⟨_, rfl⟩; have HT2 : Hid (totTo L k = t) := ht; obtain ⟨z, hz⟩ : ∃ z, m - totTo L k = z := ⟨_, rfl⟩
      have hzI : (m : Int) - (totTo L k : Int) = (z : Int) := by omega
      have HM : Hid (m - totTo L k = z ∧ totTo L k ≤ m) := ⟨hz, hle⟩
      have hzb : z ≤ 1048576 := by omega
      rw [hzI]; clear hz hzI hle ht; go_wp2; go_ret; exact ⟨_, rfl, .inl ⟨by rw [← HT.out]; exact HM.out.2, by rw [← HT.out]; have h2 := HM.out; omega⟩, HG.out⟩
theorem Flat.mkS {P : Program} {t : TypeId} {fs : Array Field} (kk : List (List Ki)) (h : P.underlying t = some (.struct fs)) (hn : fs.size = kk.length) (hc : P.cellsOf t = kk.flatten.length)
    (ha : ∀ (i : Nat), i < kk.length → ∃ f ks, fs[i]? = some f ∧ kk[i]? = some ks ∧ (f.offset = (kk.take i).flatten.length ∧ P.cellsOf f.type = ks.length) ∧ Flat P f.type ks) : Flat P t kk.flatten := by
  refine .struct h hn hc (fun i f ks hf hk => ?_) (fun i f ks hf hk => ?_)
  all_goals
    obtain ⟨f', ks', h1, h2, h3, h4⟩ := ha i (List.getElem?_eq_some_iff.1 hk).1; rw [hf] at h1; rw [hk] at h2; obtain rfl := Option.some.inj h1; obtain rfl := Option.some.inj h2
    assumption
theorem fStr : Flat Tryz.prog 9 [.str] := .str Tryz.underlying9
theorem fByt : Flat Tryz.prog 37 [.byt] := .byt Tryz.underlying37 Tryz.underlying5 (by kernel_rfl)
theorem fstFile : Flat Tryz.prog 39 kFile :=
  Flat.mkS [[.str], [.byt]] Tryz.underlying39 rfl (by kernel_rfl) (fun i hi => match i, hi with
    | 0, _ => ⟨_, _, rfl, rfl, ⟨rfl, by kernel_rfl⟩, fStr⟩
    | 1, _ => ⟨_, _, rfl, rfl, ⟨rfl, by kernel_rfl⟩, fByt⟩
    | i + 2, hi => absurd hi (by simp))
theorem fslFile : Flat Tryz.prog 22 [.row kFile] := .row Tryz.underlying22 (by kernel_rfl) (by decide) fstFile
end Go.Proofs.YtjnegjgpkboocaaGreatDoor
/-
  FnExactWalRead: the law's walk.
-/
namespace Go.Proofs.YtjnegjgpkboocaaGreatDoor.fnExactWalRead
open Go.ChangeShapes Go.WideShapes Go.ChangeAt Go.RowKit

theorem mkH {P : Prop} (h : P) : Hid P := h
set_option maxRecDepth 8000 in
set_option maxHeartbeats 8000000 in
theorem walk (L : List (List Tr)) (a : Option Addr) (p : Nat) (ad : Nat → Addr) (w : World) (hL : RowOk w kFile a L) (hb : L.length ≤ maxLen) (htb : Tab w) (hgw : 14 ≤ w.heap.size) (hE : ErrsAt w ad) :
    Calls Tryz.prog 3 #[.slice a L.length p] w fun e w' => e = .returned (.bool true) ∧ w.grownBy w' none := by
  obtain ⟨n, hn⟩ : ∃ n, L.length = n := ⟨_, rfl⟩
  have HZ : Hid (∀ X : World, w.grownBy X none → Calls Tryz.prog 4 #[.slice a n p, .int .i64 1048576] X fun e w' => ∃ v : Int, e = .returned (.int .i64 v) ∧ ((totR L ≤ 1048576 ∧ 0 ≤ v) ∨ (1048576 < totR L ∧ v = -1)) ∧ X.grownBy w' none) := fun X hX => by
    rw [← hn]; refine (szFileS_any L a p 1048576 X (hL.grown0 hX) hb (Nat.le_refl _)).mono ?_; rintro e w' ⟨v, rfl, hv, hG⟩; refine ⟨v, rfl, ?_, hG⟩
    rcases hv with ⟨h1, h2⟩ | h
    · exact .inl ⟨h1, by omega⟩
    · exact .inr h
  have HT0 : Hid (totR L ≤ 1048576 → ∀ X : World, w.grownBy X none → Calls Tryz.prog 6 #[.slice a n p] X fun e w' => ∃ (F : List Fi) (a1 : Option Addr) (p1 : Nat), e = .returned (.slice a1 F.length p1) ∧ (Made w' X.heap.size (.row kFile.length a1 p1 (F.map Fi.row)) ∧ Fits (.row kFile.length a1 p1 (F.map Fi.row)) (.row kFile) ∧ tellR (F.map Fi.row) = tellR L ∧ ImgAt w' a1 F) ∧ X.grownBy w' none) := fun hs X hX => by
    rw [← hn]; refine (toFileS_any L a p X (hL.grown0 hX) hs).mono ?_; rintro e w' ⟨L1, a1, p1, rfl, ⟨hM, hF, ht⟩, hG⟩; obtain ⟨F, rfl, hI, -⟩ := made_fis hM hF (by rw [totR_tell ht]; exact hs); exact ⟨F, a1, p1, by rw [List.length_map], ⟨hM, hF, ht, hI⟩, hG⟩
  obtain ⟨TT, hTT⟩ : ∃ TT, walTell (filesOf L) = TT := ⟨_, rfl⟩
  have hpf : ∀ F : List Fi, tellR (F.map Fi.row) = tellR L → walTell (F.map Fi.pf) = TT := fun F h => by rw [← filesOf_rows, filesOf, h, ← hTT, filesOf]
  have HP0 : Hid (totR L ≤ 1048576 → ∀ (F : List Fi) (a1 : Option Addr) (p1 : Nat) (X : World), ImgAt X a1 F → tellR (F.map Fi.row) = tellR L → Calls Tryz.prog 5 #[.slice a1 F.length p1] X fun e w' => ∃ v : Wv, e = .returned v.val ∧ WvNew X w' v ∧ v.tell = TT ∧ X.grownBy w' none) := fun hs F a1 p1 X hI ht => by
    rw [← hpf F ht]; exact specWal_any F a1 p1 X hI (by rw [totR_tell ht]; exact hs)
  have HI0 : Hid (totR L ≤ 1048576 → ∀ (F : List Fi) (a1 : Option Addr) (p1 : Nat) (X : World), w.grownBy X none → ImgAt X a1 F → tellR (F.map Fi.row) = tellR L → Calls Tryz.prog 7 #[.slice a1 F.length p1] X fun e w' => ∃ v : Wv, e = .returned v.val ∧ WvNew X w' v ∧ v.tell = TT ∧ X.grownBy w' none) := fun hs F a1 p1 X hX hI ht => by
    rw [← hpf F ht]; exact walRead_any F a1 p1 ad X hI (by rw [totR_tell ht]; exact hs) (Tab_grown htb hX) (Nat.le_trans hgw hX.size) (hE.grown hX)
  have HFN : Hid (∀ v : Wv, v.tell = TT → WvSm v → v.fin 1 ≤ 1073741824) := fun v h1 h2 => fin_le (h1.trans hTT.symm) h2
  clear hL hb hTT htb hgw hE hpf; rw [hn]; clear hn
  go_enter Tryz.func3, Tryz.ntmps3
  go_wp2_with fail; refine (HZ.out _ (grownBy_refl _ _)).mono ?_; rintro e w1 ⟨v, rfl, hv, hG1⟩; have H1 : Hid (w.grownBy w1 none) := hG1; clear hG1 HZ
  rcases hv with ⟨hfit, hv0⟩ | ⟨hbig, rfl⟩
  · have HT := mkH (HT0.out hfit); have HP := mkH (HP0.out hfit); have HI := mkH (HI0.out hfit); have HF : Hid (totR L ≤ 1048576) := hfit; clear hfit HT0 HP0 HI0; go_wp2_with fail; refine (HT.out _ H1.out).mono ?_; rintro e w2 ⟨F2, a2, p2, rfl, hF2, hG2⟩; have H2 : Hid (w.grownBy w2 none ∧ ImgAt w2 a2 F2 ∧ tellR (F2.map Fi.row) = tellR L) := ⟨grownBy_trans H1.out hG2, hF2.2.2.2, hF2.2.2.1⟩; clear hF2 hG2 H1; go_wp2_with fail; refine (HP.out F2 a2 p2 _ H2.out.2.1 H2.out.2.2).mono ?_; rintro e w3 ⟨v3, rfl, hN3, ht3, hG3⟩; have H3 : Hid (w.grownBy w3 none ∧ WvAt w3 v3 ∧ WvSm v3 ∧ v3.tell = TT) := ⟨grownBy_trans H2.out.1 hG3, hN3.at_, hN3.sm, ht3⟩; clear hN3 ht3 hG3 H2 HP; have hT1 : (w3.alloc (.cells #[.int .i64 0, .int .i64 0, .int .i64 0, .slice none 0 0, .slice none 0 0, .int .i64 0, .bool false] 27)).there w3.heap.size 0 7 := there_blk (vs := [.int .i64 0, .int .i64 0, .int .i64 0, .slice none 0 0, .slice none 0 0, .int .i64 0, .bool false]) (heap_alloc_new w3 _) rfl
    go_upto_region 6 with (refine wpList_store_mid (by rfl) _ (.tmp 4) (.tmp 18) (by rfl) _ _ [.int .i64 (v3.code : Int), .int .i64 (v3.base : Int), .int .i64 (v3.bt : Int), .slice v3.ea v3.E.length v3.ec, .slice v3.sa v3.zs.length v3.sc, .int .i64 (v3.keep : Int), .bool v3.drop].toArray (by rfl) (by rfl) ?pa1 ?pb1 ?pc1 ?pd1; exact hT1; show _ = some 7; exact Tryz.sizeView; exact all_oneCell_toArray (List.all_eq_true.1 rfl); simp only [Act.put]; generalize hX : World.setCells (w3.alloc (.cells #[.int .i64 0, .int .i64 0, .int .i64 0, .slice none 0 0, .slice none 0 0, .int .i64 0, .bool false] 27)) w3.heap.size 0 _ = w4; have hb4 : w4.heap[w3.heap.size]? = some (.cells #[.int .i64 (v3.code : Int), .int .i64 (v3.base : Int), .int .i64 (v3.bt : Int), .slice v3.ea v3.E.length v3.ec, .slice v3.sa v3.zs.length v3.sc, .int .i64 (v3.keep : Int), .bool v3.drop] 27 (0, 0)) := (by rw [← hX]; exact setCells_all (cur := [.int .i64 0, .int .i64 0, .int .i64 0, .slice none 0 0, .slice none 0 0, .int .i64 0, .bool false]) (heap_alloc_new w3 _) rfl); have hg4 : w3.grownBy w4 none := (by rw [← hX]; exact grownBy_setCellsN (Nat.le_refl _) _ _ _ (World.grownBy_alloc w3 _ _)); clear hX hT1)
    obtain ⟨X4, hX4⟩ : ∃ x, w3.heap.size = x := ⟨_, rfl⟩; rw [hX4] at hb4 ⊢
    have hwX4 : w.heap.size ≤ X4 := by rw [← hX4]; exact H3.out.1.size
    have hX4l : X4 < w4.heap.size := (Array.getElem?_eq_some_iff.1 hb4).1; have H4 : Hid (w.grownBy w4 none ∧ WvAt w4 v3 ∧ w4.heap[X4]? = some (.cells #[.int .i64 (v3.code : Int), .int .i64 (v3.base : Int), .int .i64 (v3.bt : Int), .slice v3.ea v3.E.length v3.ec, .slice v3.sa v3.zs.length v3.sc, .int .i64 (v3.keep : Int), .bool v3.drop] 27 (0, 0)) ∧ (∀ k, v3.blk k → k < w4.heap.size)) := ⟨grownBy_trans H3.out.1 hg4, H3.out.2.1.grown0 hg4, hb4, fun k hk => (H3.out.2.1.grown0 hg4).lt hk⟩; have HS3 : Hid (WvSm v3 ∧ v3.tell = TT) := H3.out.2.2; clear hb4 hg4 hX4 H3; go_wp2_with fail; refine (HT.out _ H4.out.1).mono ?_; rintro e w5 ⟨F5, a5, p5, rfl, hF5, hG5⟩; obtain ⟨lo, hlo⟩ : ∃ lo, w4.heap.size = lo := ⟨_, rfl⟩; obtain ⟨hi, hhi⟩ : ∃ hi, w5.heap.size = hi := ⟨_, rfl⟩
    have hlohi : lo ≤ hi := by rw [← hlo, ← hhi]; exact hG5.size
    have H5 : Hid ((Made w5 lo (.row kFile.length a5 p5 (F5.map Fi.row)) ∧ Fits (.row kFile.length a5 p5 (F5.map Fi.row)) (.row kFile) ∧ tellR (F5.map Fi.row) = tellR L ∧ ImgAt w5 a5 F5) ∧ w5.heap.size = hi) := ⟨by rw [← hlo]; exact hF5, hhi⟩
    have HL3 : Hid (∀ k, v3.blk k → k < lo) := by rw [← hlo]; exact H4.out.2.2.2
    have H6 : Hid (w.grownBy w5 none ∧ WvAt w5 v3 ∧ w5.heap[X4]? = some (.cells #[.int .i64 (v3.code : Int), .int .i64 (v3.base : Int), .int .i64 (v3.bt : Int), .slice v3.ea v3.E.length v3.ec, .slice v3.sa v3.zs.length v3.sc, .int .i64 (v3.keep : Int), .bool v3.drop] 27 (0, 0)) ∧ ImgAt w5 a5 F5) := ⟨grownBy_trans H4.out.1 hG5, H4.out.2.1.grown0 hG5, grown_blk hG5 H4.out.2.2.1, hF5.2.2.2⟩
    have hX4lo : X4 < lo := by rw [← hlo]; exact hX4l
    clear hF5 hG5 H4 hlo hhi hX4l; go_wp2_with fail; refine (HI.out F5 a5 p5 _ H6.out.1 H6.out.2.2.2 H5.out.1.2.2.1).mono ?_; rintro e w6 ⟨v6, rfl, hN6, ht6, hG6⟩; have H7 : Hid (w.grownBy w6 none ∧ WvAt w6 v3 ∧ w6.heap[X4]? = some (.cells #[.int .i64 (v3.code : Int), .int .i64 (v3.base : Int), .int .i64 (v3.bt : Int), .slice v3.ea v3.E.length v3.ec, .slice v3.sa v3.zs.length v3.sc, .int .i64 (v3.keep : Int), .bool v3.drop] 27 (0, 0)) ∧ WvAt w6 v6 ∧ w5.grownBy w6 none) := ⟨grownBy_trans H6.out.1 hG6, H6.out.2.1.grown0 hG6, grown_blk hG6 H6.out.2.2.1, hN6.at_, hG6⟩; have HS6 : Hid (WvSm v6 ∧ v6.tell = TT ∧ (∀ k, v6.blk k → hi ≤ k)) := ⟨hN6.sm, ht6, fun k hk => by have h9 := hN6.new k hk; rw [H5.out.2] at h9; exact h9⟩; clear hN6 ht6 hG6 H6; have hT2 : (w6.alloc (.cells #[.int .i64 0, .int .i64 0, .int .i64 0, .slice none 0 0, .slice none 0 0, .int .i64 0, .bool false] 27)).there w6.heap.size 0 7 := there_blk (vs := [.int .i64 0, .int .i64 0, .int .i64 0, .slice none 0 0, .slice none 0 0, .int .i64 0, .bool false]) (heap_alloc_new w6 _) rfl
    go_upto_region 8 with (refine wpList_store_mid (by rfl) _ (.tmp 6) (.tmp 22) (by rfl) _ _ [.int .i64 (v6.code : Int), .int .i64 (v6.base : Int), .int .i64 (v6.bt : Int), .slice v6.ea v6.E.length v6.ec, .slice v6.sa v6.zs.length v6.sc, .int .i64 (v6.keep : Int), .bool v6.drop].toArray (by rfl) (by rfl) ?pa2 ?pb2 ?pc2 ?pd2; exact hT2; show _ = some 7; exact Tryz.sizeView; exact all_oneCell_toArray (List.all_eq_true.1 rfl); simp only [Act.put]; generalize hX : World.setCells (w6.alloc (.cells #[.int .i64 0, .int .i64 0, .int .i64 0, .slice none 0 0, .slice none 0 0, .int .i64 0, .bool false] 27)) w6.heap.size 0 _ = w7; have hb7 : w7.heap[w6.heap.size]? = some (.cells #[.int .i64 (v6.code : Int), .int .i64 (v6.base : Int), .int .i64 (v6.bt : Int), .slice v6.ea v6.E.length v6.ec, .slice v6.sa v6.zs.length v6.sc, .int .i64 (v6.keep : Int), .bool v6.drop] 27 (0, 0)) := (by rw [← hX]; exact setCells_all (cur := [.int .i64 0, .int .i64 0, .int .i64 0, .slice none 0 0, .slice none 0 0, .int .i64 0, .bool false]) (heap_alloc_new w6 _) rfl); have hg7 : w6.grownBy w7 none := (by rw [← hX]; exact grownBy_setCellsN (Nat.le_refl _) _ _ _ (World.grownBy_alloc w6 _ _)); clear hX hT2)
    obtain ⟨X6, hX6⟩ : ∃ x, w6.heap.size = x := ⟨_, rfl⟩; rw [hX6] at hb7 ⊢
    have hhX6 : hi ≤ X6 := by rw [← hX6, ← H5.out.2]; exact H7.out.2.2.2.2.size
    have H8 : Hid (w.grownBy w7 none ∧ WvAt w7 v3 ∧ WvAt w7 v6 ∧ w7.heap[X4]? = some (.cells #[.int .i64 (v3.code : Int), .int .i64 (v3.base : Int), .int .i64 (v3.bt : Int), .slice v3.ea v3.E.length v3.ec, .slice v3.sa v3.zs.length v3.sc, .int .i64 (v3.keep : Int), .bool v3.drop] 27 (0, 0)) ∧ w7.heap[X6]? = some (.cells #[.int .i64 (v6.code : Int), .int .i64 (v6.base : Int), .int .i64 (v6.bt : Int), .slice v6.ea v6.E.length v6.ec, .slice v6.sa v6.zs.length v6.sc, .int .i64 (v6.keep : Int), .bool v6.drop] 27 (0, 0)) ∧ w5.grownBy w7 none) := ⟨grownBy_trans H7.out.1 hg7, H7.out.2.1.grown0 hg7, H7.out.2.2.2.1.grown0 hg7, grown_blk hg7 H7.out.2.2.1, hb7, grownBy_trans H7.out.2.2.2.2 hg7⟩
    have HB6 : Hid (∀ k, v6.blk k → k < X6) := fun k hk => by rw [← hX6]; exact H7.out.2.2.2.1.lt hk
    clear hb7 hg7 hX6 H7; have ca0 : w7.cell? ⟨X4, 0, none⟩ = some (.int .i64 (v3.code : Int)) := (cell_of_row _ _ _ _ _ _ H8.out.2.2.2.1).trans rfl; have ca1 : w7.cell? ⟨X4, 1, none⟩ = some (.int .i64 (v3.base : Int)) := (cell_of_row _ _ _ _ _ _ H8.out.2.2.2.1).trans rfl; have ca2 : w7.cell? ⟨X4, 2, none⟩ = some (.int .i64 (v3.bt : Int)) := (cell_of_row _ _ _ _ _ _ H8.out.2.2.2.1).trans rfl; have ca3 : w7.cell? ⟨X4, 3, none⟩ = some (.slice v3.ea v3.E.length v3.ec) := (cell_of_row _ _ _ _ _ _ H8.out.2.2.2.1).trans rfl; have ca4 : w7.cell? ⟨X4, 4, none⟩ = some (.slice v3.sa v3.zs.length v3.sc) := (cell_of_row _ _ _ _ _ _ H8.out.2.2.2.1).trans rfl; have ca5 : w7.cell? ⟨X4, 5, none⟩ = some (.int .i64 (v3.keep : Int)) := (cell_of_row _ _ _ _ _ _ H8.out.2.2.2.1).trans rfl; have ca6 : w7.cell? ⟨X4, 6, none⟩ = some (.bool v3.drop) := (cell_of_row _ _ _ _ _ _ H8.out.2.2.2.1).trans rfl; have cb0 : w7.cell? ⟨X6, 0, none⟩ = some (.int .i64 (v6.code : Int)) := (cell_of_row _ _ _ _ _ _ H8.out.2.2.2.2.1).trans rfl; have cb1 : w7.cell? ⟨X6, 1, none⟩ = some (.int .i64 (v6.base : Int)) := (cell_of_row _ _ _ _ _ _ H8.out.2.2.2.2.1).trans rfl; have cb2 : w7.cell? ⟨X6, 2, none⟩ = some (.int .i64 (v6.bt : Int)) := (cell_of_row _ _ _ _ _ _ H8.out.2.2.2.2.1).trans rfl; have cb3 : w7.cell? ⟨X6, 3, none⟩ = some (.slice v6.ea v6.E.length v6.ec) := (cell_of_row _ _ _ _ _ _ H8.out.2.2.2.2.1).trans rfl; have cb4 : w7.cell? ⟨X6, 4, none⟩ = some (.slice v6.sa v6.zs.length v6.sc) := (cell_of_row _ _ _ _ _ _ H8.out.2.2.2.2.1).trans rfl; have cb5 : w7.cell? ⟨X6, 5, none⟩ = some (.int .i64 (v6.keep : Int)) := (cell_of_row _ _ _ _ _ _ H8.out.2.2.2.2.1).trans rfl; have cb6 : w7.cell? ⟨X6, 6, none⟩ = some (.bool v6.drop) := (cell_of_row _ _ _ _ _ _ H8.out.2.2.2.2.1).trans rfl; go_wp2_with fail; refine (eqWalView_same v6 v3 _ H8.out.2.2.1 H8.out.2.1 (HS6.out.2.1.trans HS3.out.2.symm) HS6.out.1 HS3.out.1).mono ?_; rintro e w8 ⟨rfl, hG8⟩; have H9 : Hid (w.grownBy w8 none ∧ WvAt w8 v3 ∧ WvAt w8 v6 ∧ w8.heap[X4]? = some (.cells #[.int .i64 (v3.code : Int), .int .i64 (v3.base : Int), .int .i64 (v3.bt : Int), .slice v3.ea v3.E.length v3.ec, .slice v3.sa v3.zs.length v3.sc, .int .i64 (v3.keep : Int), .bool v3.drop] 27 (0, 0)) ∧ w8.heap[X6]? = some (.cells #[.int .i64 (v6.code : Int), .int .i64 (v6.base : Int), .int .i64 (v6.bt : Int), .slice v6.ea v6.E.length v6.ec, .slice v6.sa v6.zs.length v6.sc, .int .i64 (v6.keep : Int), .bool v6.drop] 27 (0, 0)) ∧ w5.grownBy w8 none) := ⟨grownBy_trans H8.out.1 hG8, H8.out.2.1.grown0 hG8, H8.out.2.2.1.grown0 hG8, grown_blk hG8 H8.out.2.2.2.1, grown_blk hG8 H8.out.2.2.2.2.1, grownBy_trans H8.out.2.2.2.2.2 hG8⟩; clear hG8 H8 ca0 ca1 ca2 ca3 ca4 ca5 ca6 cb0 cb1 cb2 cb3 cb4 cb5 cb6; go_wp2_with fail; refine (HT.out _ H9.out.1).mono ?_; rintro e w9 ⟨F9, a9, p9, rfl, hF9, hG9⟩; have H10 : Hid (w.grownBy w9 none ∧ WvAt w9 v3 ∧ WvAt w9 v6 ∧ w9.heap[X4]? = some (.cells #[.int .i64 (v3.code : Int), .int .i64 (v3.base : Int), .int .i64 (v3.bt : Int), .slice v3.ea v3.E.length v3.ec, .slice v3.sa v3.zs.length v3.sc, .int .i64 (v3.keep : Int), .bool v3.drop] 27 (0, 0)) ∧ w9.heap[X6]? = some (.cells #[.int .i64 (v6.code : Int), .int .i64 (v6.base : Int), .int .i64 (v6.bt : Int), .slice v6.ea v6.E.length v6.ec, .slice v6.sa v6.zs.length v6.sc, .int .i64 (v6.keep : Int), .bool v6.drop] 27 (0, 0)) ∧ w5.grownBy w9 none) := ⟨grownBy_trans H9.out.1 hG9, H9.out.2.1.grown0 hG9, H9.out.2.2.1.grown0 hG9, grown_blk hG9 H9.out.2.2.2.1, grown_blk hG9 H9.out.2.2.2.2.1, grownBy_trans H9.out.2.2.2.2.2 hG9⟩
    have HQ9 : Hid (ImgAt w9 a9 F9 ∧ ImgAt w9 a5 F5 ∧ tellR (F5.map Fi.row) = tellR (F9.map Fi.row) ∧ SmR (F5.map Fi.row)) := by
      have h5 : ImgAt w9 a5 F5 := H5.out.1.2.2.2.grown0 H10.out.2.2.2.2.2; exact ⟨hF9.2.2.2, h5, H5.out.1.2.2.1.trans hF9.2.2.1.symm, h5.rowOk.smR (by rw [totR_tell H5.out.1.2.2.1]; exact HF.out)⟩
    clear hF9 hG9 H9; go_wp2_with fail; have hEQ := eqFileS_same (F5.map Fi.row) a5 p5 (F9.map Fi.row) a9 p9 w9 HQ9.out.2.1.rowOk HQ9.out.1.rowOk HQ9.out.2.2.1 HQ9.out.2.2.2; rw [List.length_map, List.length_map] at hEQ; refine hEQ.mono ?_; clear hEQ; rintro e w10 ⟨rfl, hG10⟩; have H11 : Hid (w.grownBy w10 none ∧ WvAt w10 v3 ∧ WvAt w10 v6 ∧ w10.heap[X4]? = some (.cells #[.int .i64 (v3.code : Int), .int .i64 (v3.base : Int), .int .i64 (v3.bt : Int), .slice v3.ea v3.E.length v3.ec, .slice v3.sa v3.zs.length v3.sc, .int .i64 (v3.keep : Int), .bool v3.drop] 27 (0, 0)) ∧ w10.heap[X6]? = some (.cells #[.int .i64 (v6.code : Int), .int .i64 (v6.base : Int), .int .i64 (v6.bt : Int), .slice v6.ea v6.E.length v6.ec, .slice v6.sa v6.zs.length v6.sc, .int .i64 (v6.keep : Int), .bool v6.drop] 27 (0, 0)) ∧ w5.grownBy w10 none) := ⟨grownBy_trans H10.out.1 hG10, H10.out.2.1.grown0 hG10, H10.out.2.2.1.grown0 hG10, grown_blk hG10 H10.out.2.2.2.1, grown_blk hG10 H10.out.2.2.2.2.1, grownBy_trans H10.out.2.2.2.2.2 hG10⟩; clear hG10 H10 HQ9; go_wp2_with fail; have hMK := markFileS_any (F5.map Fi.row) a5 p5 1 (fun k => lo ≤ k ∧ k < hi) w10 (fun k hk => by have h9 := H11.out.2.2.2.2.2.size; rw [H5.out.2] at h9; omega) (by have h9 := H5.out.1.1.dugAt H11.out.2.2.2.2.2; rw [H5.out.2] at h9; exact h9) H5.out.1.2.1 (by rw [totR_tell H5.out.1.2.2.1]; have := HF.out; omega); rw [List.length_map] at hMK; refine hMK.mono ?_; clear hMK; rintro e w11 ⟨v11, rfl, hv11, hM11⟩
    have H12 : Hid (w.grownBy w11 none ∧ WvAt w11 v3 ∧ WvAt w11 v6 ∧ w11.heap[X4]? = some (.cells #[.int .i64 (v3.code : Int), .int .i64 (v3.base : Int), .int .i64 (v3.bt : Int), .slice v3.ea v3.E.length v3.ec, .slice v3.sa v3.zs.length v3.sc, .int .i64 (v3.keep : Int), .bool v3.drop] 27 (0, 0)) ∧ w11.heap[X6]? = some (.cells #[.int .i64 (v6.code : Int), .int .i64 (v6.base : Int), .int .i64 (v6.bt : Int), .slice v6.ea v6.E.length v6.ec, .slice v6.sa v6.zs.length v6.sc, .int .i64 (v6.keep : Int), .bool v6.drop] 27 (0, 0))) := by
      obtain ⟨h1, h2, h3, h4, h5, -⟩ := H11.out; exact ⟨hM11.grown h1 (fun k hk h => by have := h.1; omega), h2.only hM11 (fun k hk h => by have h9 := HL3.out k hk; have := h.1; omega), h3.only hM11 (fun k hk h => by have h9 := HS6.out.2.2 k hk; have := h.2; omega), hM11.blk h4 (fun h => by have := h.1; omega), hM11.blk h5 (fun h => by have := h.2; omega)⟩
    have hvn : decide ((v11 : Int) < 0) = false := by simp
    have hvn' : ¬ (v11 : Int) < 0 := by omega
    clear hM11 hv11 H11; have ca0 : w11.cell? ⟨X4, 0, none⟩ = some (.int .i64 (v3.code : Int)) := (cell_of_row _ _ _ _ _ _ H12.out.2.2.2.1).trans rfl; have ca1 : w11.cell? ⟨X4, 1, none⟩ = some (.int .i64 (v3.base : Int)) := (cell_of_row _ _ _ _ _ _ H12.out.2.2.2.1).trans rfl; have ca2 : w11.cell? ⟨X4, 2, none⟩ = some (.int .i64 (v3.bt : Int)) := (cell_of_row _ _ _ _ _ _ H12.out.2.2.2.1).trans rfl; have ca3 : w11.cell? ⟨X4, 3, none⟩ = some (.slice v3.ea v3.E.length v3.ec) := (cell_of_row _ _ _ _ _ _ H12.out.2.2.2.1).trans rfl; have ca4 : w11.cell? ⟨X4, 4, none⟩ = some (.slice v3.sa v3.zs.length v3.sc) := (cell_of_row _ _ _ _ _ _ H12.out.2.2.2.1).trans rfl; have ca5 : w11.cell? ⟨X4, 5, none⟩ = some (.int .i64 (v3.keep : Int)) := (cell_of_row _ _ _ _ _ _ H12.out.2.2.2.1).trans rfl; have ca6 : w11.cell? ⟨X4, 6, none⟩ = some (.bool v3.drop) := (cell_of_row _ _ _ _ _ _ H12.out.2.2.2.1).trans rfl; have cb0 : w11.cell? ⟨X6, 0, none⟩ = some (.int .i64 (v6.code : Int)) := (cell_of_row _ _ _ _ _ _ H12.out.2.2.2.2).trans rfl; have cb1 : w11.cell? ⟨X6, 1, none⟩ = some (.int .i64 (v6.base : Int)) := (cell_of_row _ _ _ _ _ _ H12.out.2.2.2.2).trans rfl; have cb2 : w11.cell? ⟨X6, 2, none⟩ = some (.int .i64 (v6.bt : Int)) := (cell_of_row _ _ _ _ _ _ H12.out.2.2.2.2).trans rfl; have cb3 : w11.cell? ⟨X6, 3, none⟩ = some (.slice v6.ea v6.E.length v6.ec) := (cell_of_row _ _ _ _ _ _ H12.out.2.2.2.2).trans rfl; have cb4 : w11.cell? ⟨X6, 4, none⟩ = some (.slice v6.sa v6.zs.length v6.sc) := (cell_of_row _ _ _ _ _ _ H12.out.2.2.2.2).trans rfl; have cb5 : w11.cell? ⟨X6, 5, none⟩ = some (.int .i64 (v6.keep : Int)) := (cell_of_row _ _ _ _ _ _ H12.out.2.2.2.2).trans rfl; have cb6 : w11.cell? ⟨X6, 6, none⟩ = some (.bool v6.drop) := (cell_of_row _ _ _ _ _ _ H12.out.2.2.2.2).trans rfl; go_wp2_with fail; refine (eqWalView_same v6 v3 _ H12.out.2.2.1 H12.out.2.1 (HS6.out.2.1.trans HS3.out.2.symm) HS6.out.1 HS3.out.1).mono ?_; rintro e w12 ⟨rfl, hG12⟩; have H13 : Hid (w.grownBy w12 none ∧ WvAt w12 v3 ∧ WvAt w12 v6 ∧ w12.heap[X4]? = some (.cells #[.int .i64 (v3.code : Int), .int .i64 (v3.base : Int), .int .i64 (v3.bt : Int), .slice v3.ea v3.E.length v3.ec, .slice v3.sa v3.zs.length v3.sc, .int .i64 (v3.keep : Int), .bool v3.drop] 27 (0, 0)) ∧ w12.heap[X6]? = some (.cells #[.int .i64 (v6.code : Int), .int .i64 (v6.base : Int), .int .i64 (v6.bt : Int), .slice v6.ea v6.E.length v6.ec, .slice v6.sa v6.zs.length v6.sc, .int .i64 (v6.keep : Int), .bool v6.drop] 27 (0, 0))) := ⟨grownBy_trans H12.out.1 hG12, H12.out.2.1.grown0 hG12, H12.out.2.2.1.grown0 hG12, grown_blk hG12 H12.out.2.2.2.1, grown_blk hG12 H12.out.2.2.2.2⟩; have hfin : v6.fin 1 ≤ 1073741824 := HFN.out v6 HS6.out.2.1 HS6.out.1; obtain ⟨fi, hfi⟩ : ∃ x, v6.fin 1 = x := ⟨_, rfl⟩; have HFI : Hid (v6.fin 1 = fi ∧ v6.fin 1 ≤ 1073741824) := ⟨hfi, hfin⟩; clear hG12 H12 ca0 ca1 ca2 ca3 ca4 ca5 ca6 cb0 cb1 cb2 cb3 cb4 cb5 cb6 hfi hfin; have cb0 : w12.cell? ⟨X6, 0, none⟩ = some (.int .i64 (v6.code : Int)) := (cell_of_row _ _ _ _ _ _ H13.out.2.2.2.2).trans rfl; have cb1 : w12.cell? ⟨X6, 1, none⟩ = some (.int .i64 (v6.base : Int)) := (cell_of_row _ _ _ _ _ _ H13.out.2.2.2.2).trans rfl; have cb2 : w12.cell? ⟨X6, 2, none⟩ = some (.int .i64 (v6.bt : Int)) := (cell_of_row _ _ _ _ _ _ H13.out.2.2.2.2).trans rfl; have cb3 : w12.cell? ⟨X6, 3, none⟩ = some (.slice v6.ea v6.E.length v6.ec) := (cell_of_row _ _ _ _ _ _ H13.out.2.2.2.2).trans rfl; have cb4 : w12.cell? ⟨X6, 4, none⟩ = some (.slice v6.sa v6.zs.length v6.sc) := (cell_of_row _ _ _ _ _ _ H13.out.2.2.2.2).trans rfl; have cb5 : w12.cell? ⟨X6, 5, none⟩ = some (.int .i64 (v6.keep : Int)) := (cell_of_row _ _ _ _ _ _ H13.out.2.2.2.2).trans rfl; have cb6 : w12.cell? ⟨X6, 6, none⟩ = some (.bool v6.drop) := (cell_of_row _ _ _ _ _ _ H13.out.2.2.2.2).trans rfl; go_wp2_with fail; have hMW := markWalView_own v6 1 w12 H13.out.2.2.1 HFI.out.2; rw [HFI.out.1] at hMW; refine hMW.mono ?_; clear hMW; rintro e w13 ⟨rfl, hA13, hM13⟩
    have H14 : Hid (w.grownBy w13 none ∧ WvAt w13 v3 ∧ WvAt w13 (v6.marked 1) ∧ w13.heap[X4]? = some (.cells #[.int .i64 (v3.code : Int), .int .i64 (v3.base : Int), .int .i64 (v3.bt : Int), .slice v3.ea v3.E.length v3.ec, .slice v3.sa v3.zs.length v3.sc, .int .i64 (v3.keep : Int), .bool v3.drop] 27 (0, 0)) ∧ w13.heap[X6]? = some (.cells #[.int .i64 (v6.code : Int), .int .i64 (v6.base : Int), .int .i64 (v6.bt : Int), .slice v6.ea v6.E.length v6.ec, .slice v6.sa v6.zs.length v6.sc, .int .i64 (v6.keep : Int), .bool v6.drop] 27 (0, 0))) := by
      obtain ⟨h1, h2, h3, h4, h5⟩ := H13.out; exact ⟨hM13.grown h1 (fun k hk h => by have h9 := HS6.out.2.2 k h; omega), h2.only hM13 (fun k hk h => by have h9 := HS6.out.2.2 k h; have h8 := HL3.out k hk; omega), hA13, hM13.blk h4 (fun h => by have h9 := HS6.out.2.2 _ h; omega), hM13.blk h5 (fun h => by have h9 := HB6.out _ h; omega)⟩
    clear hA13 hM13 H13 cb0 cb1 cb2 cb3 cb4 cb5 cb6; have cb0 : w13.cell? ⟨X6, 0, none⟩ = some (.int .i64 (v6.code : Int)) := (cell_of_row _ _ _ _ _ _ H14.out.2.2.2.2).trans rfl; have cb1 : w13.cell? ⟨X6, 1, none⟩ = some (.int .i64 (v6.base : Int)) := (cell_of_row _ _ _ _ _ _ H14.out.2.2.2.2).trans rfl; have cb2 : w13.cell? ⟨X6, 2, none⟩ = some (.int .i64 (v6.bt : Int)) := (cell_of_row _ _ _ _ _ _ H14.out.2.2.2.2).trans rfl; have cb3 : w13.cell? ⟨X6, 3, none⟩ = some (.slice v6.ea v6.E.length v6.ec) := (cell_of_row _ _ _ _ _ _ H14.out.2.2.2.2).trans rfl; have cb4 : w13.cell? ⟨X6, 4, none⟩ = some (.slice v6.sa v6.zs.length v6.sc) := (cell_of_row _ _ _ _ _ _ H14.out.2.2.2.2).trans rfl; have cb5 : w13.cell? ⟨X6, 5, none⟩ = some (.int .i64 (v6.keep : Int)) := (cell_of_row _ _ _ _ _ _ H14.out.2.2.2.2).trans rfl; have cb6 : w13.cell? ⟨X6, 6, none⟩ = some (.bool v6.drop) := (cell_of_row _ _ _ _ _ _ H14.out.2.2.2.2).trans rfl; go_wp2_with fail; have hHE := heldWalView_own v6 1 w13 H14.out.2.2.1 HFI.out.2 (fun e he => (HS6.out.1.each e he).2.2); rw [HFI.out.1, marked_val] at hHE; refine hHE.mono ?_; clear hHE; rintro e w14 ⟨rfl, hG14⟩; have H15 : Hid (w.grownBy w14 none ∧ WvAt w14 v3 ∧ w14.heap[X4]? = some (.cells #[.int .i64 (v3.code : Int), .int .i64 (v3.base : Int), .int .i64 (v3.bt : Int), .slice v3.ea v3.E.length v3.ec, .slice v3.sa v3.zs.length v3.sc, .int .i64 (v3.keep : Int), .bool v3.drop] 27 (0, 0))) := ⟨grownBy_trans H14.out.1 hG14, H14.out.2.1.grown0 hG14, grown_blk hG14 H14.out.2.2.2.1⟩
    have hqn : ¬ (fi : Int) < 0 := by omega
    have hqm : ((fi : Int) != (fi : Int)) = false := by simp
    clear hG14 H14 cb0 cb1 cb2 cb3 cb4 cb5 cb6 HFI; go_wp2_with fail; refine (HT.out _ H15.out.1).mono ?_; rintro e w15 ⟨F15, a15, p15, rfl, hF15, hG15⟩; have H16 : Hid (w.grownBy w15 none ∧ WvAt w15 v3 ∧ w15.heap[X4]? = some (.cells #[.int .i64 (v3.code : Int), .int .i64 (v3.base : Int), .int .i64 (v3.bt : Int), .slice v3.ea v3.E.length v3.ec, .slice v3.sa v3.zs.length v3.sc, .int .i64 (v3.keep : Int), .bool v3.drop] 27 (0, 0)) ∧ ImgAt w15 a15 F15 ∧ tellR (F15.map Fi.row) = tellR L) := ⟨grownBy_trans H15.out.1 hG15, H15.out.2.1.grown0 hG15, grown_blk hG15 H15.out.2.2, hF15.2.2.2, hF15.2.2.1⟩; clear hF15 hG15 H15; go_wp2_with fail; refine (HI.out F15 a15 p15 _ H16.out.1 H16.out.2.2.2.1 H16.out.2.2.2.2).mono ?_; rintro e w16 ⟨v16, rfl, hN16, ht16, hG16⟩; have H17 : Hid (w.grownBy w16 none ∧ WvAt w16 v3 ∧ w16.heap[X4]? = some (.cells #[.int .i64 (v3.code : Int), .int .i64 (v3.base : Int), .int .i64 (v3.bt : Int), .slice v3.ea v3.E.length v3.ec, .slice v3.sa v3.zs.length v3.sc, .int .i64 (v3.keep : Int), .bool v3.drop] 27 (0, 0)) ∧ WvAt w16 v16 ∧ WvSm v16 ∧ v16.tell = TT) := ⟨grownBy_trans H16.out.1 hG16, H16.out.2.1.grown0 hG16, grown_blk hG16 H16.out.2.2.1, hN16.at_, hN16.sm, ht16⟩; clear hN16 ht16 hG16 H16; have hT3 : (w16.alloc (.cells #[.int .i64 0, .int .i64 0, .int .i64 0, .slice none 0 0, .slice none 0 0, .int .i64 0, .bool false] 27)).there w16.heap.size 0 7 := there_blk (vs := [.int .i64 0, .int .i64 0, .int .i64 0, .slice none 0 0, .slice none 0 0, .int .i64 0, .bool false]) (heap_alloc_new w16 _) rfl
    go_upto_region 25 with (refine wpList_store_mid (by rfl) _ (.tmp 10) (.tmp 56) (by rfl) _ _ [.int .i64 (v16.code : Int), .int .i64 (v16.base : Int), .int .i64 (v16.bt : Int), .slice v16.ea v16.E.length v16.ec, .slice v16.sa v16.zs.length v16.sc, .int .i64 (v16.keep : Int), .bool v16.drop].toArray (by rfl) (by rfl) ?pa3 ?pb3 ?pc3 ?pd3; exact hT3; show _ = some 7; exact Tryz.sizeView; exact all_oneCell_toArray (List.all_eq_true.1 rfl); simp only [Act.put]; generalize hX : World.setCells (w16.alloc (.cells #[.int .i64 0, .int .i64 0, .int .i64 0, .slice none 0 0, .slice none 0 0, .int .i64 0, .bool false] 27)) w16.heap.size 0 _ = w17; have hb17 : w17.heap[w16.heap.size]? = some (.cells #[.int .i64 (v16.code : Int), .int .i64 (v16.base : Int), .int .i64 (v16.bt : Int), .slice v16.ea v16.E.length v16.ec, .slice v16.sa v16.zs.length v16.sc, .int .i64 (v16.keep : Int), .bool v16.drop] 27 (0, 0)) := (by rw [← hX]; exact setCells_all (cur := [.int .i64 0, .int .i64 0, .int .i64 0, .slice none 0 0, .slice none 0 0, .int .i64 0, .bool false]) (heap_alloc_new w16 _) rfl); have hg17 : w16.grownBy w17 none := (by rw [← hX]; exact grownBy_setCellsN (Nat.le_refl _) _ _ _ (World.grownBy_alloc w16 _ _)); clear hX hT3)
    obtain ⟨X10, hX10⟩ : ∃ x, w16.heap.size = x := ⟨_, rfl⟩; rw [hX10] at hb17 ⊢; have H18 : Hid (w.grownBy w17 none ∧ WvAt w17 v3 ∧ w17.heap[X4]? = some (.cells #[.int .i64 (v3.code : Int), .int .i64 (v3.base : Int), .int .i64 (v3.bt : Int), .slice v3.ea v3.E.length v3.ec, .slice v3.sa v3.zs.length v3.sc, .int .i64 (v3.keep : Int), .bool v3.drop] 27 (0, 0)) ∧ WvAt w17 v16 ∧ w17.heap[X10]? = some (.cells #[.int .i64 (v16.code : Int), .int .i64 (v16.base : Int), .int .i64 (v16.bt : Int), .slice v16.ea v16.E.length v16.ec, .slice v16.sa v16.zs.length v16.sc, .int .i64 (v16.keep : Int), .bool v16.drop] 27 (0, 0))) := ⟨grownBy_trans H17.out.1 hg17, H17.out.2.1.grown0 hg17, grown_blk hg17 H17.out.2.2.1, H17.out.2.2.2.1.grown0 hg17, hb17⟩; clear hb17 hg17 hX10; have ca0 : w17.cell? ⟨X4, 0, none⟩ = some (.int .i64 (v3.code : Int)) := (cell_of_row _ _ _ _ _ _ H18.out.2.2.1).trans rfl; have ca1 : w17.cell? ⟨X4, 1, none⟩ = some (.int .i64 (v3.base : Int)) := (cell_of_row _ _ _ _ _ _ H18.out.2.2.1).trans rfl; have ca2 : w17.cell? ⟨X4, 2, none⟩ = some (.int .i64 (v3.bt : Int)) := (cell_of_row _ _ _ _ _ _ H18.out.2.2.1).trans rfl; have ca3 : w17.cell? ⟨X4, 3, none⟩ = some (.slice v3.ea v3.E.length v3.ec) := (cell_of_row _ _ _ _ _ _ H18.out.2.2.1).trans rfl; have ca4 : w17.cell? ⟨X4, 4, none⟩ = some (.slice v3.sa v3.zs.length v3.sc) := (cell_of_row _ _ _ _ _ _ H18.out.2.2.1).trans rfl; have ca5 : w17.cell? ⟨X4, 5, none⟩ = some (.int .i64 (v3.keep : Int)) := (cell_of_row _ _ _ _ _ _ H18.out.2.2.1).trans rfl; have ca6 : w17.cell? ⟨X4, 6, none⟩ = some (.bool v3.drop) := (cell_of_row _ _ _ _ _ _ H18.out.2.2.1).trans rfl; have cb0 : w17.cell? ⟨X10, 0, none⟩ = some (.int .i64 (v16.code : Int)) := (cell_of_row _ _ _ _ _ _ H18.out.2.2.2.2).trans rfl; have cb1 : w17.cell? ⟨X10, 1, none⟩ = some (.int .i64 (v16.base : Int)) := (cell_of_row _ _ _ _ _ _ H18.out.2.2.2.2).trans rfl; have cb2 : w17.cell? ⟨X10, 2, none⟩ = some (.int .i64 (v16.bt : Int)) := (cell_of_row _ _ _ _ _ _ H18.out.2.2.2.2).trans rfl; have cb3 : w17.cell? ⟨X10, 3, none⟩ = some (.slice v16.ea v16.E.length v16.ec) := (cell_of_row _ _ _ _ _ _ H18.out.2.2.2.2).trans rfl; have cb4 : w17.cell? ⟨X10, 4, none⟩ = some (.slice v16.sa v16.zs.length v16.sc) := (cell_of_row _ _ _ _ _ _ H18.out.2.2.2.2).trans rfl; have cb5 : w17.cell? ⟨X10, 5, none⟩ = some (.int .i64 (v16.keep : Int)) := (cell_of_row _ _ _ _ _ _ H18.out.2.2.2.2).trans rfl; have cb6 : w17.cell? ⟨X10, 6, none⟩ = some (.bool v16.drop) := (cell_of_row _ _ _ _ _ _ H18.out.2.2.2.2).trans rfl; go_wp2_with fail; refine (eqWalView_same v16 v3 _ H18.out.2.2.2.1 H18.out.2.1 (H17.out.2.2.2.2.2.trans HS3.out.2.symm) H17.out.2.2.2.2.1 HS3.out.1).mono ?_; rintro e w18 ⟨rfl, hG18⟩; have R : Hid (w.grownBy w18 none) := grownBy_trans H18.out.1 hG18; clear hG18; go_wp2; go_ret; exact ⟨rfl, R.out⟩
  · go_wp2; go_ret; exact ⟨rfl, H1.out⟩

set_option maxRecDepth 100000 in
theorem cellsRow : Tryz.prog.cellsOf 22 = 1 := by kernel_rfl
end Go.Proofs.YtjnegjgpkboocaaGreatDoor.fnExactWalRead
/-
  The errors and the table that the rows list: that they lie (ErrsAt, Tab).
-/
namespace Go.Proofs.YtjnegjgpkboocaaGreatDoor
open Go.ChangeShapes Go.WideShapes Go.RowKit

/-- sentinels of one type, however many: where each points, and that they are apart -/
theorem sentinels {P : Program} {W : World} {ti tp te ts : TypeId} {ms : Array (String × TypeId)} {f : Field} {nm : String} (hi : P.underlying ti = some (.interface ms)) (hrow : ∀ u, P.typeName? 3 u = some nm → u = tp)
    (hp : P.underlying tp = some (.pointer te)) (he : P.underlying te = some (.struct #[f])) (hft : f.type = ts) (hfo : f.offset = 0) (hs : P.underlying ts = some .string) (hc : P.cellsOf te = 1) (hcs : P.cellsOf ts = 1) :
    ∀ (l : List (String × List UInt8)) (rest : List (String × DataW Unit)) (ps : List MemPlace), DataW.LaidVars P W ((l.map fun x => (x.1, .iface nm (.ptr (.agg [.lit (.string x.2)])))) ++ rest) ps → (∀ x ∈ l, ∃ g, P.globalNamed x.1 = some g ∧ (P.globals[g]?).map (·.type) = some ti) →
      (∀ b off, MemPlace.cell b off ∈ ps → (∃ c t, W.heap[b]? = some (.cells c t (0, 0))) ∧ ∀ u v, W.cell? ⟨b, off, none⟩ = some (.iface u v) → Value.okWide P W .any 0 u v) →
      ∃ ads : List Addr, ads.length = l.length ∧ (ads.map fun a => MemPlace.cell a.block a.off).Sublist ps ∧ ∀ (i : Nat) (x : String × List UInt8) (a : Addr), l[i]? = some x → ads[i]? = some a → W.var? P x.1 = some #[.iface tp (.pointer (some a))] ∧ ∃ c t, W.heap[a.block]? = some (.cells c t (0, 0)) := by
  intro l
  induction l with
  | nil => intro rest ps _ _ _; exact ⟨[], rfl, by simp, fun i x a h => by simp at h⟩
  | cons y l ih =>
    intro rest ps h hg hrows; obtain ⟨g, t, cs, fuel, p, q, hg', ht', hv, hd, hr, rfl⟩ := h; obtain ⟨g0, hg0, ht0⟩ := hg y (by simp); obtain rfl := Option.some.inj (hg0.symm.trans hg'); obtain rfl := Option.some.inj (ht0.symm.trans ht'); obtain ⟨lc⟩ := cs
    have ok : ∀ u v, lc = [.iface u v] → Value.okWide P W .any 0 u v := fun u v e => by
      subst e; exact (hrows g0 0 (by simp [MemPlace.row])).2 u v (by simpa using World.var?_cell hg' hv 0)
    obtain ⟨a, s, rfl, hca, hsa, hza, rfl⟩ := errorString_of_trod hi hrow hp he hft hfo hs hc hcs hd ok; obtain ⟨ads, h1, h2, h3⟩ := ih rest q hr (fun x hx => hg x (by simp [hx])) (fun b off hb => hrows b off (by simp [hb])); refine ⟨a :: ads, by simp [h1], ?_, fun i x b hx hb => ?_⟩
    · have e : MemPlace.row a 1 = [MemPlace.cell a.block a.off] := by simp [MemPlace.row]
      rw [e, List.map_cons, List.append_assoc]; refine List.Sublist.trans ?_ (List.sublist_append_right _ _); exact List.Sublist.cons_cons _ h2
    · cases i with
      | zero =>
        simp at hx hb
        subst hx hb; exact ⟨hv, (hrows a.block a.off (by simp [MemPlace.row])).1⟩
      | succ i => exact h3 i x b (by simpa using hx) (by simpa using hb)
def errList : List (String × List UInt8) :=
  [("loop.example/s01723/impl.errName", [110, 111, 116, 32, 97, 32, 103, 111, 111, 100, 32, 110, 97, 109, 101]),
    ("loop.example/s01723/impl.errNone", [110, 111, 32, 115, 117, 99, 104, 32, 102, 105, 108, 101]),
    ("loop.example/s01723/impl.errExist", [116, 104, 101, 32, 110, 97, 109, 101, 32, 105, 115, 32, 116, 97, 107, 101, 110]),
    ("loop.example/s01723/impl.errRange", [111, 117, 116, 32, 111, 102, 32, 114, 97, 110, 103, 101]),
    ("loop.example/s01723/impl.errFull", [110, 111, 32, 114, 111, 111, 109, 32, 105, 115, 32, 108, 101, 102, 116]),
    ("loop.example/s01723/impl.errPower", [116, 104, 101, 32, 112, 111, 119, 101, 114, 32, 105, 115, 32, 111, 102, 102]),
    ("loop.example/s01723/impl.errCorrupt", [110, 111, 32, 110, 111, 100, 101, 32, 104, 97, 115, 32, 108, 101, 102, 116, 32, 116, 104, 101, 115, 101, 32, 102, 105, 108, 101, 115]),
    ("loop.example/s01723/impl.errFailed", [116, 104, 101, 32, 110, 111, 100, 101, 32, 104, 97, 115, 32, 102, 97, 105, 108, 101, 100]),
    ("loop.example/s01723/impl.errDown", [116, 104, 101, 32, 110, 111, 100, 101, 32, 105, 115, 32, 100, 111, 119, 110]),
    ("loop.example/s01723/impl.errLeader", [110, 111, 116, 32, 102, 111, 114, 32, 97, 32, 110, 111, 100, 101, 32, 111, 102, 32, 116, 104, 97, 116, 32, 114, 111, 108, 101]),
    ("loop.example/s01723/impl.errBeyond", [116, 104, 101, 32, 112, 108, 97, 99, 101, 32, 105, 115, 32, 98, 101, 121, 111, 110, 100, 32, 116, 104, 101, 32, 108, 97, 115, 116, 32, 105, 116, 101, 109]),
    ("loop.example/s01723/impl.errCompacted", [116, 104, 101, 32, 105, 116, 101, 109, 32, 105, 115, 110, 39, 116, 32, 107, 101, 112, 116, 32, 97, 110, 121, 32, 109, 111, 114, 101])]
namespace ErrsLaidW
theorem own : ownKnob Tryz.prog.godebug = none := by kernel_rfl
theorem laidOut : laidOutB Tryz.prog = true := by kernel_rfl
theorem star : "*" ++ "errors.errorString" = "*errors.errorString" := by decide
theorem rowES (u : TypeId) (h : Tryz.prog.typeName? 3 u = some "*errors.errorString") : u = 177 :=
  typeName_ptr_named (nm := "errors.errorString") (by rw [star]; kernel_rfl) (by kernel_rfl) (by decide) u (by rw [star]; exact h)
theorem cellsES : Tryz.prog.cellsOf 197 = 1 := by kernel_rfl
theorem cellsStr : Tryz.prog.cellsOf 9 = 1 := by kernel_rfl
theorem gerrName : Tryz.prog.globalNamed "loop.example/s01723/impl.errName" = some 1 := by kernel_rfl
theorem terrName : (Tryz.prog.globals[1]?).map (·.type) = some 62 := by kernel_rfl
theorem gerrNone : Tryz.prog.globalNamed "loop.example/s01723/impl.errNone" = some 2 := by kernel_rfl
theorem terrNone : (Tryz.prog.globals[2]?).map (·.type) = some 62 := by kernel_rfl
theorem gerrExist : Tryz.prog.globalNamed "loop.example/s01723/impl.errExist" = some 3 := by kernel_rfl
theorem terrExist : (Tryz.prog.globals[3]?).map (·.type) = some 62 := by kernel_rfl
theorem gerrRange : Tryz.prog.globalNamed "loop.example/s01723/impl.errRange" = some 4 := by kernel_rfl
theorem terrRange : (Tryz.prog.globals[4]?).map (·.type) = some 62 := by kernel_rfl
theorem gerrFull : Tryz.prog.globalNamed "loop.example/s01723/impl.errFull" = some 5 := by kernel_rfl
theorem terrFull : (Tryz.prog.globals[5]?).map (·.type) = some 62 := by kernel_rfl
theorem gerrPower : Tryz.prog.globalNamed "loop.example/s01723/impl.errPower" = some 6 := by kernel_rfl
theorem terrPower : (Tryz.prog.globals[6]?).map (·.type) = some 62 := by kernel_rfl
theorem gerrCorrupt : Tryz.prog.globalNamed "loop.example/s01723/impl.errCorrupt" = some 0 := by kernel_rfl
theorem terrCorrupt : (Tryz.prog.globals[0]?).map (·.type) = some 62 := by kernel_rfl
theorem gerrFailed : Tryz.prog.globalNamed "loop.example/s01723/impl.errFailed" = some 7 := by kernel_rfl
theorem terrFailed : (Tryz.prog.globals[7]?).map (·.type) = some 62 := by kernel_rfl
theorem gerrDown : Tryz.prog.globalNamed "loop.example/s01723/impl.errDown" = some 8 := by kernel_rfl
theorem terrDown : (Tryz.prog.globals[8]?).map (·.type) = some 62 := by kernel_rfl
theorem gerrLeader : Tryz.prog.globalNamed "loop.example/s01723/impl.errLeader" = some 9 := by kernel_rfl
theorem terrLeader : (Tryz.prog.globals[9]?).map (·.type) = some 62 := by kernel_rfl
theorem gerrBeyond : Tryz.prog.globalNamed "loop.example/s01723/impl.errBeyond" = some 10 := by kernel_rfl
theorem terrBeyond : (Tryz.prog.globals[10]?).map (·.type) = some 62 := by kernel_rfl
theorem gerrCompacted : Tryz.prog.globalNamed "loop.example/s01723/impl.errCompacted" = some 11 := by kernel_rfl
theorem terrCompacted : (Tryz.prog.globals[11]?).map (·.type) = some 62 := by kernel_rfl
theorem et : Tryz.prog.globalNamed "errors.errorType" = some 12 := by kernel_rfl
theorem rt : (Tryz.prog.cutTypes.find? (·.1 == "internal/reflectlite.rtype")).map (·.2) = some 155 := by kernel_rfl
theorem size : Tryz.prog.types.size = 209 := by kernel_rfl
theorem oneRow : ((List.range 209).filter fun t => Tryz.prog.rowNamed t [101, 114, 114, 111, 114]) = [62] := by kernel_rfl
theorem handle : typeHandle Tryz.prog 62 = .pointer (some ⟨14, 62, none⟩) := by kernel_rfl
theorem named : ∀ x ∈ errList, ∃ g, Tryz.prog.globalNamed x.1 = some g ∧ (Tryz.prog.globals[g]?).map (·.type) = some 62 := by
  intro x hx; simp only [errList, List.mem_cons, List.not_mem_nil, or_false] at hx
  rcases hx with rfl | rfl | rfl | rfl | rfl | rfl | rfl | rfl | rfl | rfl | rfl | rfl
  · exact ⟨_, gerrName, terrName⟩
  · exact ⟨_, gerrNone, terrNone⟩
  · exact ⟨_, gerrExist, terrExist⟩
  · exact ⟨_, gerrRange, terrRange⟩
  · exact ⟨_, gerrFull, terrFull⟩
  · exact ⟨_, gerrPower, terrPower⟩
  · exact ⟨_, gerrCorrupt, terrCorrupt⟩
  · exact ⟨_, gerrFailed, terrFailed⟩
  · exact ⟨_, gerrDown, terrDown⟩
  · exact ⟨_, gerrLeader, terrLeader⟩
  · exact ⟨_, gerrBeyond, terrBeyond⟩
  · exact ⟨_, gerrCompacted, terrCompacted⟩

theorem laid_drop {P : Program} {W : World} : ∀ (l1 l2 : List (String × DataW Unit)), laidMet P (l1 ++ l2) W → laidMet P l2 W
  | [], _, h => h
  | _ :: l1, l2, h => laid_drop l1 l2 (laidMet.tail h)
theorem tabs {W : World} {l : List (String × DataW Unit)} (hl : l = ("errors.errorType", Rows.laid_errors_errorType) :: ((errList.map fun x => (x.1, .iface "*errors.errorString" (.ptr (.agg [.lit (.string x.2)])))) ++ [(TabLaid.nm, Rows.laid_loop_example_s01723_impl_sumTable)])) (h : laidMetH Tryz.prog l W) : Tab W := by
  subst hl; have h' : laidMet Tryz.prog ((errList.map fun x => (x.1, .iface "*errors.errorString" (.ptr (.agg [.lit (.string x.2)])))) ++ [(TabLaid.nm, Rows.laid_loop_example_s01723_impl_sumTable)]) W ∧ handlesMet Tryz.prog [("errors.errorType", Rows.laid_errors_errorType)] W := h; exact TabLaid.tab (show laidMet Tryz.prog [(TabLaid.nm, Rows.laid_loop_example_s01723_impl_sumTable)] W from laid_drop _ _ h'.1)
theorem errs {W : World} {l : List (String × DataW Unit)} (hl : l = ("errors.errorType", Rows.laid_errors_errorType) :: ((errList.map fun x => (x.1, .iface "*errors.errorString" (.ptr (.agg [.lit (.string x.2)])))) ++ [(TabLaid.nm, Rows.laid_loop_example_s01723_impl_sumTable)])) (h : laidMetH Tryz.prog l W) : ∃ ad, ErrsAt W ad := by
  subst hl; have h' : laidMet Tryz.prog ((errList.map fun x => (x.1, .iface "*errors.errorString" (.ptr (.agg [.lit (.string x.2)])))) ++ [(TabLaid.nm, Rows.laid_loop_example_s01723_impl_sumTable)]) W ∧ handlesMet Tryz.prog [("errors.errorType", Rows.laid_errors_errorType)] W := h; obtain ⟨⟨ps, hlv, hnd, hrows⟩, hh⟩ := h'; obtain ⟨ads, ha1, ha2, ha3⟩ := sentinels Tryz.underlying62 rowES Tryz.underlying177 Tryz.underlying197 rfl rfl Tryz.underlying9 cellsES cellsStr errList _ ps hlv named hrows; have hl12 : ads.length = 12 := ha1; have hnd2 : (ads.map fun a => MemPlace.cell a.block a.off).Nodup := ha2.nodup hnd
  have hget : ∀ i, i < 12 → ∃ a, ads[i]? = some a := fun i hi => ⟨_, List.getElem?_eq_getElem (by omega)⟩
  let pm : Nat → Nat := fun k => ([6, 0, 1, 2, 3, 4, 5, 7, 8, 9, 10, 11] : List Nat).getD k 0
  have hpm : ∀ k, k < 12 → pm k < 12 := by decide
  have hpi : ∀ j, j < 12 → ∀ k, k < 12 → pm j = pm k → j = k := by decide
  refine ⟨fun k => (ads[pm k]?).getD ⟨0, 0, none⟩, ⟨fun k hk => ?_, fun k hk => ?_, fun j k hj hk hjk e => ?_, ?_⟩⟩
  · obtain ⟨a, ha⟩ := hget (pm k) (hpm k hk); rw [ha]; simp only [Option.getD_some]
    match k, hk with
    | 0, _ => simpa using World.var?_cell gerrCorrupt (ha3 6 _ a rfl ha).1 0
    | 1, _ => simpa using World.var?_cell gerrName (ha3 0 _ a rfl ha).1 0
    | 2, _ => simpa using World.var?_cell gerrNone (ha3 1 _ a rfl ha).1 0
    | 3, _ => simpa using World.var?_cell gerrExist (ha3 2 _ a rfl ha).1 0
    | 4, _ => simpa using World.var?_cell gerrRange (ha3 3 _ a rfl ha).1 0
    | 5, _ => simpa using World.var?_cell gerrFull (ha3 4 _ a rfl ha).1 0
    | 6, _ => simpa using World.var?_cell gerrPower (ha3 5 _ a rfl ha).1 0
    | 7, _ => simpa using World.var?_cell gerrFailed (ha3 7 _ a rfl ha).1 0
    | 8, _ => simpa using World.var?_cell gerrDown (ha3 8 _ a rfl ha).1 0
    | 9, _ => simpa using World.var?_cell gerrLeader (ha3 9 _ a rfl ha).1 0
    | 10, _ => simpa using World.var?_cell gerrBeyond (ha3 10 _ a rfl ha).1 0
    | 11, _ => simpa using World.var?_cell gerrCompacted (ha3 11 _ a rfl ha).1 0
  · obtain ⟨a, ha⟩ := hget (pm k) (hpm k hk); rw [ha]; simp only [Option.getD_some]
    match k, hk with
    | 0, _ => exact (ha3 6 _ a rfl ha).2
    | 1, _ => exact (ha3 0 _ a rfl ha).2
    | 2, _ => exact (ha3 1 _ a rfl ha).2
    | 3, _ => exact (ha3 2 _ a rfl ha).2
    | 4, _ => exact (ha3 3 _ a rfl ha).2
    | 5, _ => exact (ha3 4 _ a rfl ha).2
    | 6, _ => exact (ha3 5 _ a rfl ha).2
    | 7, _ => exact (ha3 7 _ a rfl ha).2
    | 8, _ => exact (ha3 8 _ a rfl ha).2
    | 9, _ => exact (ha3 9 _ a rfl ha).2
    | 10, _ => exact (ha3 10 _ a rfl ha).2
    | 11, _ => exact (ha3 11 _ a rfl ha).2
  · obtain ⟨a, ha⟩ := hget (pm j) (hpm j hj); obtain ⟨b, hb⟩ := hget (pm k) (hpm k hk); simp only [ha, hb, Option.getD_some] at e; subst e
    have hne : pm j ≠ pm k := fun h => hjk (hpi j hj k hk h)
    have e1 : (ads.map fun a => MemPlace.cell a.block a.off)[pm j]? = some (MemPlace.cell a.block a.off) := by rw [List.getElem?_map, ha]; rfl
    have e2 : (ads.map fun a => MemPlace.cell a.block a.off)[pm k]? = some (MemPlace.cell a.block a.off) := by rw [List.getElem?_map, hb]; rfl
    exact hne ((List.getElem?_inj (by rw [List.length_map, hl12]; exact hpm j hj) hnd2).1 (e1.trans e2.symm))
  · obtain ⟨name, u, ty, e1, e2, e3, e4, e5⟩ := hh _ (List.mem_singleton.2 rfl); have en : name = [101, 114, 114, 111, 114] := (Option.some.inj e1).symm; subst en; obtain rfl := Option.some.inj (rt.symm.trans e2)
    have hm : ty ∈ (List.range 209).filter fun t => Tryz.prog.rowNamed t [101, 114, 114, 111, 114] := List.mem_filter.2 ⟨List.mem_range.2 (by rw [← size]; exact e3), e4⟩
    rw [oneRow] at hm; obtain rfl := List.mem_singleton.1 hm; rw [handle] at e5
    simpa using World.var?_cell et e5 0
/-- the errors' variables can be read where they lie -/
theorem vars_ok {W : World} {ad : Nat → Addr} (hE : ErrsAt W ad) (hT : Tab W) (ns : List String) (hns : ns = ["loop.example/s01723/impl.errCorrupt", "loop.example/s01723/impl.sumTable", "loop.example/s01723/impl.errName", "loop.example/s01723/impl.errNone", "loop.example/s01723/impl.errExist", "loop.example/s01723/impl.errRange", "loop.example/s01723/impl.errFull", "loop.example/s01723/impl.errPower", "loop.example/s01723/impl.errFailed", "loop.example/s01723/impl.errDown", "loop.example/s01723/impl.errLeader", "loop.example/s01723/impl.errBeyond", "loop.example/s01723/impl.errCompacted"]) : (ns.all fun n => match Tryz.prog.globalNamed n with
      | none => true
      | some g => decide (g < W.heap.size) && (match (Tryz.prog.globals[g]?).map (·.type) with
        | none => true
        | some t => Tryz.prog.readableRec t && decide (t < Tryz.prog.types.size))) = true := by
  subst hns
  have hr : Tryz.prog.readableRec 62 = true := by kernel_rfl
  have hr2 : Tryz.prog.readableRec 176 = true := by kernel_rfl
  have hlt : ∀ k, k < 12 → k < W.heap.size := fun k hk => cell_block_lt (hE.cell k hk)
  have hg0 : 13 < W.heap.size := cell_block_lt (hT 0 (by decide)); have gT : Tryz.prog.globalNamed "loop.example/s01723/impl.sumTable" = some 13 := TabLaid.gTab; simp only [List.all_cons, List.all_nil, Bool.and_true, gT, TabLaid.gTabType, gerrName, terrName, gerrNone, terrNone, gerrExist, terrExist, gerrRange, terrRange, gerrFull, terrFull, gerrPower, terrPower, gerrCorrupt, terrCorrupt, gerrFailed, terrFailed, gerrDown, terrDown, gerrLeader, terrLeader, gerrBeyond, terrBeyond, gerrCompacted, terrCompacted, hr, hr2, size, Bool.true_and, Bool.and_eq_true, decide_eq_true_eq]; exact ⟨⟨hlt 0 (by decide), by decide⟩, ⟨hg0, by decide⟩, ⟨hlt 1 (by decide), by decide⟩, ⟨hlt 2 (by decide), by decide⟩, ⟨hlt 3 (by decide), by decide⟩, ⟨hlt 4 (by decide), by decide⟩, ⟨hlt 5 (by decide), by decide⟩, ⟨hlt 6 (by decide), by decide⟩, ⟨hlt 7 (by decide), by decide⟩, ⟨hlt 8 (by decide), by decide⟩, ⟨hlt 9 (by decide), by decide⟩, ⟨hlt 10 (by decide), by decide⟩, ⟨hlt 11 (by decide), by decide⟩⟩
theorem vars_len {H : Type} {enc : TypeId × Value → H} {P : Program} {W : World} {sp : Nat → Bool} : ∀ (ns : List String) (gs : List (DataW H)) (q : List MemPlace), DataW.TrodVars enc P W sp ns gs q → gs.length = ns.length := by
  intro ns
  induction ns with
  | nil => intro gs q h; obtain ⟨rfl, rfl⟩ := trodVars_none h; rfl
  | cons n ns ih =>
    intro gs q h
    cases gs with
    | nil => simp [DataW.TrodVars] at h
    | cons d ds =>
      obtain ⟨g, t, cs, fuel, p, q', h1, h2, h3, h4, hs, rfl⟩ := h
      simp [ih ds q' hs]
end ErrsLaidW
end Go.Proofs.YtjnegjgpkboocaaGreatDoor
/-
  FnExactWalRead: from the walk to the row's contract.
-/
namespace Go.Proofs.YtjnegjgpkboocaaGreatDoor.fnExactWalRead
open Go.ChangeShapes Go.WideShapes Go.ChangeAt Go.RowKit

set_option maxRecDepth 100000 in
set_option maxHeartbeats 4000000 in
theorem contract (H : Type) (enc : TypeId × Value → H) (W : World) (base : Nat) (args : Array Value) (ds gs : List (DataW H)) (before : List MemPlace)
    (hval : ∀ (j : Nat) t v, Tryz.f3.params[j]? = some t → args[j]? = some v → Value.okWide Tryz.prog W .any base t v)
    (hW : DataW.Whole enc Tryz.prog Tryz.f3.params.toList Rows.fnExactWalReadSpec.vars false W args.toList ds gs before) (ad : Nat → Addr) (hE : ErrsAt W ad) (hT : Tab W) :
    Calls Tryz.prog 3 args W fun e W' => ∃ v, e = .returned v ∧ Rows.fnExactWalReadSpec.post enc Tryz.prog Tryz.f3 false true false false W args v W' := by
  have hW' := hW; obtain ⟨p, q, hA0, hV, rfl, hfz, hnd⟩ := hW; have hA : DataW.TrodAll enc Tryz.prog W 0 (fun _ => true) true Tryz.f3.params.toList args.toList ds p := hA0; rw [Tryz.params3] at hA hval; obtain ⟨v0, vs0, d0, ds0, p0, q0, hargs, rfl, rfl, h0, r0⟩ := trodAll_cons hA; obtain ⟨rfl, rfl, rfl⟩ := trodAll_nil r0
  obtain rfl : args = #[v0] := by cases args; simp_all
  obtain ⟨a1, len1, cap1, rfl⟩ := okWide_slice Tryz.underlying22 (hval 0 22 v0 rfl rfl); obtain ⟨fuel, h0⟩ := h0; obtain ⟨e1, hc1, hf1, hr1⟩ := open_flat fslFile _ _ _ h0; obtain ⟨z1, t1, rfl, f1, g1⟩ := FitsL.cons hf1; obtain rfl := g1.nil; obtain ⟨b1, p1, L1, rfl⟩ := f1.isRow
  simp at hc1
  obtain ⟨rfl, rfl, rfl⟩ := hc1; have hgl : gs.length = 13 := ErrsLaidW.vars_len _ _ _ hV
  refine (walk L1 _ _ ad W ((hr1 _ (List.mem_singleton.2 rfl)).rowOk f1 (by decide)) (hr1 _ (List.mem_singleton.2 rfl)).lenR hT (by have h9 := cell_block_lt (hT 0 (by decide)); exact h9) hE).mono fun e W' ⟨he, hgr⟩ => ?_
  subst he
  match gs, hgl with
  | [g1, g2, g3, g4, g5, g6, g7, g8, g9, g10, g11, g12, g13], _ =>
    exact ⟨_, rfl, Post.law ErrsLaidW.laidOut (below_of_grown hgr) hW' (by kernel_rfl) (ErrsLaidW.vars_ok hE hT _ rfl) (tb := 4) (by kernel_rfl) Tryz.underlying4 rfl⟩
end Go.Proofs.YtjnegjgpkboocaaGreatDoor.fnExactWalRead
/-
  A world in which the errors and the table lie as the rows list them.
-/
namespace Go.Proofs.YtjnegjgpkboocaaGreatDoor
open Go.ChangeShapes Go.WideShapes Go.ChangeAt Go.RowKit
namespace ErrsLaidW
def errObjs : Array Obj := #[.cells #[.string { data := #[110, 111, 32, 110, 111, 100, 101, 32, 104, 97, 115, 32, 108, 101, 102, 116, 32, 116, 104, 101, 115, 101, 32, 102, 105, 108, 101, 115] }] 197, .cells #[.string { data := #[110, 111, 116, 32, 97, 32, 103, 111, 111, 100, 32, 110, 97, 109, 101] }] 197, .cells #[.string { data := #[110, 111, 32, 115, 117, 99, 104, 32, 102, 105, 108, 101] }] 197, .cells #[.string { data := #[116, 104, 101, 32, 110, 97, 109, 101, 32, 105, 115, 32, 116, 97, 107, 101, 110] }] 197, .cells #[.string { data := #[111, 117, 116, 32, 111, 102, 32, 114, 97, 110, 103, 101] }] 197, .cells #[.string { data := #[110, 111, 32, 114, 111, 111, 109, 32, 105, 115, 32, 108, 101, 102, 116] }] 197, .cells #[.string { data := #[116, 104, 101, 32, 112, 111, 119, 101, 114, 32, 105, 115, 32, 111, 102, 102] }] 197, .cells #[.string { data := #[116, 104, 101, 32, 110, 111, 100, 101, 32, 104, 97, 115, 32, 102, 97, 105, 108, 101, 100] }] 197, .cells #[.string { data := #[116, 104, 101, 32, 110, 111, 100, 101, 32, 105, 115, 32, 100, 111, 119, 110] }] 197, .cells #[.string { data := #[110, 111, 116, 32, 102, 111, 114, 32, 97, 32, 110, 111, 100, 101, 32, 111, 102, 32, 116, 104, 97, 116, 32, 114, 111, 108, 101] }] 197, .cells #[.string { data := #[116, 104, 101, 32, 112, 108, 97, 99, 101, 32, 105, 115, 32, 98, 101, 121, 111, 110, 100, 32, 116, 104, 101, 32, 108, 97, 115, 116, 32, 105, 116, 101, 109] }] 197, .cells #[.string { data := #[116, 104, 101, 32, 105, 116, 101, 109, 32, 105, 115, 110, 39, 116, 32, 107, 101, 112, 116, 32, 97, 110, 121, 32, 109, 111, 114, 101] }] 197]
def laidOn (w0 : World) (low : Nat) : World :=
  { w0 with heap := ((((((((((((((w0.heap.modify 0 fun
      | .cells _ t frozen => .cells #[.iface 177 (.pointer (some ⟨low + 0, 0, none⟩))] t frozen
      | o => o).modify 1 fun
      | .cells _ t frozen => .cells #[.iface 177 (.pointer (some ⟨low + 1, 0, none⟩))] t frozen
      | o => o).modify 2 fun
      | .cells _ t frozen => .cells #[.iface 177 (.pointer (some ⟨low + 2, 0, none⟩))] t frozen
      | o => o).modify 3 fun
      | .cells _ t frozen => .cells #[.iface 177 (.pointer (some ⟨low + 3, 0, none⟩))] t frozen
      | o => o).modify 4 fun
      | .cells _ t frozen => .cells #[.iface 177 (.pointer (some ⟨low + 4, 0, none⟩))] t frozen
      | o => o).modify 5 fun
      | .cells _ t frozen => .cells #[.iface 177 (.pointer (some ⟨low + 5, 0, none⟩))] t frozen
      | o => o).modify 6 fun
      | .cells _ t frozen => .cells #[.iface 177 (.pointer (some ⟨low + 6, 0, none⟩))] t frozen
      | o => o).modify 7 fun
      | .cells _ t frozen => .cells #[.iface 177 (.pointer (some ⟨low + 7, 0, none⟩))] t frozen
      | o => o).modify 8 fun
      | .cells _ t frozen => .cells #[.iface 177 (.pointer (some ⟨low + 8, 0, none⟩))] t frozen
      | o => o).modify 9 fun
      | .cells _ t frozen => .cells #[.iface 177 (.pointer (some ⟨low + 9, 0, none⟩))] t frozen
      | o => o).modify 10 fun
      | .cells _ t frozen => .cells #[.iface 177 (.pointer (some ⟨low + 10, 0, none⟩))] t frozen
      | o => o).modify 11 fun
      | .cells _ t frozen => .cells #[.iface 177 (.pointer (some ⟨low + 11, 0, none⟩))] t frozen
      | o => o).modify 12 fun
      | .cells _ t frozen => .cells #[.iface 155 (.agg #[.pointer (some ⟨14, 62, none⟩)])] t frozen
      | o => o).modify 13 fun
      | .cells _ t frozen => .cells #[.int .u32 0, .int .u32 274646895, .int .u32 549293790, .int .u32 820201905, .int .u32 1098587580, .int .u32 1361435347, .int .u32 1640403810, .int .u32 1905808397, .int .u32 2197175160, .int .u32 2460548119, .int .u32 2722870694, .int .u32 2987750089, .int .u32 3280807620, .int .u32 3553878443, .int .u32 3811616794, .int .u32 4084100981] t frozen
      | o => o) }
theorem sents_met (os : Os) (args : Array Value) : laidMet Tryz.prog ((errList.map fun x => (x.1, .iface "*errors.errorString" (.ptr (.agg [.lit (.string x.2)])))) ++ [(TabLaid.nm, Rows.laid_loop_example_s01723_impl_sumTable)]) ((laidOn (World.holding Tryz.prog os ⟨errObjs, #[], []⟩) (World.holding Tryz.prog default ⟨#[], #[], []⟩).heap.size).forCall (fun _ _ => 0) ⟨#[], args, []⟩).memory :=
  laidMet_of_run (ps := [.cell 1 0, .cell ((World.holding Tryz.prog default ⟨#[], #[], []⟩).heap.size + 1) 0, .cell 2 0, .cell ((World.holding Tryz.prog default ⟨#[], #[], []⟩).heap.size + 2) 0, .cell 3 0, .cell ((World.holding Tryz.prog default ⟨#[], #[], []⟩).heap.size + 3) 0, .cell 4 0, .cell ((World.holding Tryz.prog default ⟨#[], #[], []⟩).heap.size + 4) 0, .cell 5 0, .cell ((World.holding Tryz.prog default ⟨#[], #[], []⟩).heap.size + 5) 0, .cell 6 0, .cell ((World.holding Tryz.prog default ⟨#[], #[], []⟩).heap.size + 6) 0, .cell 0 0, .cell ((World.holding Tryz.prog default ⟨#[], #[], []⟩).heap.size + 0) 0, .cell 7 0, .cell ((World.holding Tryz.prog default ⟨#[], #[], []⟩).heap.size + 7) 0, .cell 8 0, .cell ((World.holding Tryz.prog default ⟨#[], #[], []⟩).heap.size + 8) 0, .cell 9 0, .cell ((World.holding Tryz.prog default ⟨#[], #[], []⟩).heap.size + 9) 0, .cell 10 0, .cell ((World.holding Tryz.prog default ⟨#[], #[], []⟩).heap.size + 10) 0, .cell 11 0, .cell ((World.holding Tryz.prog default ⟨#[], #[], []⟩).heap.size + 11) 0, .cell 13 0, .cell 13 1, .cell 13 2, .cell 13 3, .cell 13 4, .cell 13 5, .cell 13 6, .cell 13 7, .cell 13 8, .cell 13 9, .cell 13 10, .cell 13 11, .cell 13 12, .cell 13 13, .cell 13 14, .cell 13 15]) 8 (by kernel_rfl) (by kernel_rfl) (by kernel_rfl)
theorem all_met (os : Os) (args : Array Value) (l : List (String × DataW Unit)) (hl : l = ("errors.errorType", Rows.laid_errors_errorType) :: ((errList.map fun x => (x.1, .iface "*errors.errorString" (.ptr (.agg [.lit (.string x.2)])))) ++ [(TabLaid.nm, Rows.laid_loop_example_s01723_impl_sumTable)])) : laidMetH Tryz.prog l ((laidOn (World.holding Tryz.prog os ⟨errObjs, #[], []⟩) (World.holding Tryz.prog default ⟨#[], #[], []⟩).heap.size).forCall (fun _ _ => 0) ⟨#[], args, []⟩).memory := by
  subst hl; exact laidMetH_of_parts (sents_met os args) (by kernel_rfl)
end ErrsLaidW
end Go.Proofs.YtjnegjgpkboocaaGreatDoor
/-
  FnExactWalRead: from the contract to the row and its card (the errors and the table are listed).
-/
namespace Go.Proofs.YtjnegjgpkboocaaGreatDoor.fnExactWalRead
open Go.ChangeShapes Go.WideShapes Go.ChangeAt Go.RowKit

theorem list : Rows.fnExactWalReadRow.laid = ("errors.errorType", Rows.laid_errors_errorType) :: ((errList.map fun x => (x.1, .iface "*errors.errorString" (.ptr (.agg [.lit (.string x.2)])))) ++ [(TabLaid.nm, Rows.laid_loop_example_s01723_impl_sumTable)]) := rfl
theorem reads (os : Os) {H : Type} (enc : TypeId × Value → H) : ∃ ds gs places, DataW.whole enc Tryz.prog ((ErrsLaidW.laidOn (World.holding Tryz.prog os ⟨ErrsLaidW.errObjs, #[], []⟩) (World.holding Tryz.prog default ⟨#[], #[], []⟩).heap.size).forCall (fun _ _ => 0) ⟨#[], #[.slice none 0 0], []⟩).memory Tryz.f3.params.toList Rows.fnExactWalReadSpec.vars false (#[.slice none 0 0] : Array Value).toList 8 = some (ds, gs, places) := by
  have h : (DataW.whole enc Tryz.prog ((ErrsLaidW.laidOn (World.holding Tryz.prog os ⟨ErrsLaidW.errObjs, #[], []⟩) (World.holding Tryz.prog default ⟨#[], #[], []⟩).heap.size).forCall (fun _ _ => 0) ⟨#[], #[.slice none 0 0], []⟩).memory Tryz.f3.params.toList Rows.fnExactWalReadSpec.vars false (#[.slice none 0 0] : Array Value).toList 8).isSome = true := by kernel_rfl
  obtain ⟨⟨ds, gs, places⟩, hx⟩ := Option.isSome_iff_exists.1 h; exact ⟨ds, gs, places, hx⟩

set_option maxRecDepth 100000 in
theorem lifted (os : Os) (started : os.Started) (H : Type) (enc : TypeId × Value → H) (F : Stop.Interp) :
    ReturnsInHanded {} Tryz.checked os 3 .any ((OpenSpec.ofChange Rows.fnExactWalReadSpec).preRow enc Tryz.prog Tryz.f3 Rows.fnExactWalReadRow.domain false Rows.fnExactWalReadRow.laid) (((OpenSpec.ofChange Rows.fnExactWalReadSpec).at F).post enc Tryz.prog Tryz.f3 false true false false) := by
  obtain ⟨ds, gs, places, hx⟩ := reads os enc; refine returnsInHanded_of_row (C := Tryz.checked) (s := OpenSpec.ofChange Rows.fnExactWalReadSpec) ErrsLaidW.own started (by kernel_rfl) Tryz.func3
    (witness_row_at (enc := enc) (C := Tryz.checked) false (ErrsLaidW.laidOn (World.holding Tryz.prog os ⟨ErrsLaidW.errObjs, #[], []⟩) (World.holding Tryz.prog default ⟨#[], #[], []⟩).heap.size) #[.slice none 0 0] rfl (by kernel_rfl) (by kernel_rfl) (by kernel_rfl)
      (OpenSpec.preRow_of_cond 8 hx (by kernel_rfl) (fun k hk => by cases hk) (by kernel_rfl) (ErrsLaidW.all_met os _ _ list))) ?_
  intro W base args ds gs before hval hW _ _ _ hL _ _; obtain ⟨ad, hE⟩ := ErrsLaidW.errs list hL; exact contract H enc W base args ds gs before hval hW ad hE (ErrsLaidW.tabs list hL)

theorem said : Rows.FnExactWalReadSaid :=
  OpenClaim.holds_of_cond 3 Tryz.f3 rfl rfl rfl rfl rfl rfl rfl ⟨rfl, rfl, rfl, rfl, rfl⟩ rfl rfl rfl rfl rfl (by kernel_rfl) Tryz.func3 (by kernel_rfl)
    (of_decide_eq_true (by kernel_rfl)) (by unfold Func.isWrapper; first | (rw [if_pos (by decide +kernel)]; kernel_rfl) | (rw [if_neg (by decide +kernel)]; exact ⟨rfl, rfl⟩))
    (fun os started H enc _ F => by rw [OpenClaim.pre_eq_preRow]; exact lifted os started H enc F)

theorem plain (f : FuncId) (fn : Func) (hf : Tryz.pinned.checked.prog.funcNamed Rows.fnExactWalReadRow.func = some f) (hfn : Tryz.pinned.checked.prog.funcs[f]? = some fn) :
    true = Tryz.pinned.checked.prog.looks [] ∧ ∀ (j : Nat) t, fn.params[j]? = some t → Tryz.pinned.checked.prog.wantsStandIn t = false := by
  obtain rfl : f = 3 := Option.some.inj ((show Tryz.prog.funcNamed Rows.fnExactWalReadRow.func = some 3 by kernel_rfl).symm.trans hf) |>.symm
  obtain rfl : fn = Tryz.f3 := (Option.some.inj (Tryz.func3.symm.trans hfn)).symm; refine ⟨by kernel_rfl, fun j t ht => ?_⟩
  have hm : t ∈ Tryz.f3.params.toList := by simpa using Array.mem_of_getElem? ht
  have hall : (Tryz.f3.params.toList.all fun u => !Tryz.prog.wantsStandIn u) = true := by kernel_rfl
  exact (show Tryz.prog.wantsStandIn t = false by simpa using List.all_eq_true.1 hall t hm)
end Go.Proofs.YtjnegjgpkboocaaGreatDoor.fnExactWalRead
namespace Go.Proofs.YtjnegjgpkboocaaGreatDoor
theorem FnExactWalRead_holds : Rows.FnExactWalReadCardSaid :=
  Claim7.holds_tied_plain_at .later [] _ _ _ _ fnExactWalRead.said (fun _ h => by cases h) (by kernel_rfl) (fun _ h => by cases h) fnExactWalRead_row_tie rfl ⟨rfl, rfl⟩ (by kernel_rfl) rfl fnExactWalRead.plain (by kernel_rfl)
#print axioms FnExactWalRead_holds
end Go.Proofs.YtjnegjgpkboocaaGreatDoor
