/-
  Bytes as hexadecimal text, walked: the program's and the model's.
-/
import Derived.Test.YtkjjglnbbahbkaaDoorSpJoin
import Derived.Deep.RegionHeld3
import Derived.Deep.DeepCutAuto
namespace Go.Proofs.YtkjjglnbbahbkaaDoor
open Go.RowKit

/-- bytes that lie below B -/
def SlLow (B : Nat) (w : World) (oa : Option Addr) (n : Nat) (d : List Nat) : Prop := ∀ w', Below B w w' → SlB w' oa n d
theorem SlLow.on {B : Nat} {w w' : World} {oa : Option Addr} {n : Nat} {d : List Nat} (h : SlLow B w oa n d) (hb : Below B w w') : SlLow B w' oa n d := fun x hx => h x (hb.trans hx)
theorem SlLow.sl {B : Nat} {w : World} {oa : Option Addr} {n : Nat} {d : List Nat} (h : SlLow B w oa n d) : SlB w oa n d := h w (Below.refl _ _)
def hexd (i : Nat) : Nat := if i < 10 then 48 + i else 87 + i
theorem hexd_lt {i : Nat} (h : i < 16) : hexd i < 256 := by unfold hexd; split <;> omega
theorem hex_get : ∀ (i : Nat) (h : i < 16), ((⟨#[48, 49, 50, 51, 52, 53, 54, 55, 56, 57, 97, 98, 99, 100, 101, 102]⟩ : ByteArray)[i]'h).toNat = hexd i := by decide
theorem hex_at (P : Program) (w : World) (n : Int) (i : Nat) (hn : n = (i : Int)) (h : i < 16) :
    ((if _h : 0 ≤ n ∧ n < 16 then Result.ok (Value.int IntKind.u8 ((⟨#[48, 49, 50, 51, 52, 53, 54, 55, 56, 57, 97, 98, 99, 100, 101, 102]⟩ : ByteArray)[n.toNat]'(by show n.toNat < 16; omega)).toNat) w
        else Sem.run P (boundsPanic IntKind.u8 n 16 BoundsCode.index) w).andThen fun a w' => Result.ok (Next.value a) w') = Result.ok (Next.value (.int .u8 ((hexd i : Nat) : Int))) w := by
  subst hn
  rw [dif_pos ⟨by omega, by omega⟩]
  simp only [Result.andThen, Int.toNat_natCast, hex_get i h]
theorem hex_at1 (P : Program) (w : World) (n : Int) (i : Nat) (hn : n = (i : Int)) (h : i < 16) (hb : ∀ _h : n < 16, n.toNat < 16) :
    ((if _h : n < 16 then Result.ok (Value.int IntKind.u8 ((⟨#[48, 49, 50, 51, 52, 53, 54, 55, 56, 57, 97, 98, 99, 100, 101, 102]⟩ : ByteArray)[n.toNat]'(hb _h)).toNat) w
        else Sem.run P (boundsPanic IntKind.u8 n 16 BoundsCode.index) w).andThen fun a w' => Result.ok (Next.value a) w') = Result.ok (Next.value (.int .u8 ((hexd i : Nat) : Int))) w := by
  subst hn
  rw [dif_pos (by omega)]
  simp only [Result.andThen, Int.toNat_natCast, hex_get i h]
set_option maxRecDepth 20000 in
theorem and15 : ∀ x : Nat, x < 256 → bits BinOp.and IntKind.u8 (x : Int) 15 = ((x % 16 : Nat) : Int) := by decide
theorem out0 (X : World) (k base : Nat) (hb : base ≤ k) (hX : X.heap[k]? = some (.cells #[] 5 (0, 0))) : Out base X (.slice (some ⟨k, 0, none⟩) 0 0) [] :=
  ⟨⟨rfl, .inr ⟨k, 0, #[], rfl, hb, hX, Nat.le_refl _, Nat.zero_le _, rfl, rfl⟩⟩, by simp⟩
/-- two signs a byte -/
def hex2 (d : List Nat) : List Nat := d.flatMap (fun x => [hexd (x / 16), hexd (x % 16)])
def hexB (d : List Nat) : List Nat := if d = [] then [45] else hex2 d
theorem hexB_pos {d : List Nat} (h : 0 < d.length) : hexB d = hex2 d := by
  rw [hexB, if_neg]
  rintro rfl
  simp at h
theorem hex2_len (d : List Nat) : (hex2 d).length = 2 * d.length := by
  induction d with
  | nil => rfl
  | cons x d ih => simp only [hex2, List.flatMap_cons, List.length_append, List.length_cons, List.length_nil] at ih ⊢; omega
theorem hexB_len (d : List Nat) : (hexB d).length ≤ 2 * d.length + 1 := by
  unfold hexB
  split
  · simp
  · rw [hex2_len]; omega
theorem hexB_len0 (d : List Nat) : 0 < (hexB d).length := by
  unfold hexB
  split
  · simp
  · rename_i h
    rw [hex2_len]
    have := List.length_pos_iff.2 h
    omega
theorem hex2_snoc (d : List Nat) (k x : Nat) (h : d[k]? = some x) : hex2 (d.take (k + 1)) = hex2 (d.take k) ++ [hexd (x / 16), hexd (x % 16)] := by
  rw [List.take_add_one, h]
  simp [hex2]
theorem hex2_lt {d : List Nat} (h : ∀ z ∈ d, z < 256) : ∀ z ∈ hex2 d, z < 256 := by
  intro z hz
  obtain ⟨x, hx, h1⟩ := List.mem_flatMap.1 hz
  have h2 := h x hx
  simp only [List.mem_cons, List.not_mem_nil, or_false] at h1
  rcases h1 with rfl | rfl
  · exact hexd_lt (by omega)
  · exact hexd_lt (by omega)
theorem two_bytes (w : World) (r s : Nat) (hr : r < 256) (hs : s < 256) (e : TypeId) : SlB (w.alloc (.cells #[.int .u8 (r : Int), .int .u8 (s : Int)] e)) (some ⟨w.heap.size, 0, none⟩) 2 [r, s] := by
  refine ⟨rfl, by simpa using ⟨hr, hs⟩, fun _ => ⟨w.heap.size, 0, rfl, fun i hi => ?_⟩⟩
  match i, hi with
  | 0, _ => simp
  | 1, _ => simp
set_option maxRecDepth 4000 in
set_option maxHeartbeats 4000000 in
theorem addHex_out {B : Nat} {w : World} {v : Value} {zs : List Nat} (ho : Out B w v zs) (oa : Option Addr) (d : List Nat) (p : Nat) (hd : SlLow B w oa d.length d) (hB : B ≤ w.heap.size) (hl : zs.length ≤ 4294967296) (hdl : d.length ≤ 1048576) :
    Calls Tryd.prog 42 #[v, .slice oa d.length p] w fun e w' => ∃ v', e = .returned v' ∧ Out B w' v' (zs ++ hexB d) ∧ Ex B w w' := by
  have HO : Hid (Out B w v zs ∧ SlLow B w oa d.length d ∧ B ≤ w.heap.size) := ⟨ho, hd, hB⟩
  clear ho hd hB
  obtain ⟨n, hn⟩ : ∃ n, d.length = n := ⟨_, rfl⟩
  have HN : Hid (d.length = n) := hn
  rw [hn] at hdl ⊢
  clear hn
  go_enter Tryd.func42, Tryd.ntmps42
  by_cases hn0 : n = 0
  · subst hn0
    go_wp2_with (at_builtin; refine wpList_out_s (by rfl) (.tmp 10) _ (by rfl) (B := B) (zs := zs) (by rfl) (by exact HO.out.1) [45] (by rfl) (by rfl) (by decide) (by simp; omega) (by exact HO.out.2.2) ?_; intro v1 w1 H1)
    go_ret
    refine ⟨v1, rfl, ?_, H1.out.2⟩
    rw [hexB, if_pos (List.length_eq_zero_iff.1 HN.out)]
    exact H1.out.1
  · have hnI : ((n : Int) == 0) = false := by simpa using hn0
    go_wp2
    go_loopw [0, 14] (fun v i wr => ∃ k : Nat, k ≤ n ∧ i = .int .i64 (k : Int) ∧ Out B wr v (zs ++ hex2 (d.take k)) ∧ Ex B w wr) (fun _ i _ => n - (intOf i).toNat)
    case atStart => exact ⟨0, Nat.zero_le _, rfl, by simpa [hex2] using HO.out.1, Ex.refl _ _⟩
    case round =>
      obtain ⟨k, hk, rfl, hOr, hE⟩ := hrel
      have HR : Hid (Out B wr u0 (zs ++ hex2 (d.take k)) ∧ Ex B w wr ∧ B ≤ wr.heap.size) := ⟨hOr, hE, hE.size HO.out.2.2⟩
      clear hOr hE
      by_cases hlt : k < n
      · obtain ⟨x, hx⟩ : ∃ x, d[k]? = some x := ⟨_, List.getElem?_eq_getElem (by rw [HN.out]; exact hlt)⟩
        obtain ⟨b, off, rfl, hcell⟩ := (HO.out.2.1 wr HR.out.2.1.below).2.2 (by rw [HN.out]; omega)
        have hx256 : x < 256 := HO.out.2.1.sl.2.1 x (List.mem_of_getElem? hx)
        have c0 : wr.cell? ⟨b, off + k, none⟩ = some (.int .u8 (x : Int)) := by
          rw [hcell k (by rw [HN.out]; exact hlt), List.getD_eq_getElem?_getD, hx]
          rfl
        have HX : Hid (d[k]? = some x) := hx
        clear hx hcell
        have hlen : Hid ((zs ++ hex2 (d.take k)).length ≤ 4294967296 + 2 * 1048576) := by
          show _ ≤ _
          rw [List.length_append, hex2_len, List.length_take]
          have := HN.out
          omega
        have hkI : (k : Int) < (n : Int) := by omega
        go_wp2
        refine wp_region_Z (fun W => True) (fun j => false) (by kernel_rfl) ?_
        refine wpAnyZ_take' (i := 0) (v := ?vz1) rfl (by kernel_rfl) (by kernel_rfl) (by kernel_rfl) (fun _ _ _ h => h) (Or.inl ⟨by rfl, ?yz1⟩) ?rz1
        case yz1 => (intro w _; go_simp; first | done | with_reducible rfl)
        simp only [Act.put, List.setIfInBounds_toArray, List.set_cons_zero, List.set_cons_succ]
        refine wpAnyZ_take' (i := 1) (v := ?vz2) rfl (by kernel_rfl) (by kernel_rfl) (by kernel_rfl) (fun _ _ _ h => h) (Or.inl ⟨by rfl, ?yz2⟩) ?rz2
        case yz2 => (intro w _; go_simp; first | done | with_reducible rfl)
        simp only [Act.put, List.setIfInBounds_toArray, List.set_cons_zero, List.set_cons_succ]
        refine wpAnyZ_take' (i := 2) (v := ?vz3) rfl (by kernel_rfl) (by kernel_rfl) (by kernel_rfl) (fun _ _ _ h => h) (Or.inl ⟨by rfl, ?yz3⟩) ?rz3
        case yz3 => (intro w _; go_simp; first | done | with_reducible rfl)
        simp only [Act.put, List.setIfInBounds_toArray, List.set_cons_zero, List.set_cons_succ]
        refine wpAnyZ_take' (i := 4) (v := ?vz4) rfl (by kernel_rfl) (by kernel_rfl) (by kernel_rfl) (fun _ _ _ h => h) (Or.inl ⟨by rfl, ?yz4⟩) ?rz4
        case yz4 => (intro w _; go_simp; first | done | with_reducible rfl)
        simp only [Act.put, List.setIfInBounds_toArray, List.set_cons_zero, List.set_cons_succ]
        refine wpAnyZ_take' (i := 5) (v := ?vz5) rfl (by kernel_rfl) (by kernel_rfl) (by kernel_rfl) (fun _ _ _ h => h) (Or.inl ⟨by rfl, ?yz5⟩) ?rz5
        case yz5 => (intro w _; go_simp; first | done | with_reducible rfl)
        simp only [Act.put, List.setIfInBounds_toArray, List.set_cons_zero, List.set_cons_succ]
        refine wpAnyZ_take' (i := 3) (v := ?vz6) rfl (by kernel_rfl) (by kernel_rfl) (by kernel_rfl) (fun _ _ _ h => h) (Or.inl ⟨by rfl, ?yz6⟩) ?rz6
        case yz6 => (intro w _; go_simp; refine hex_at _ _ _ (x / 16) ?_ ?_ <;> omega)
        simp only [Act.put, List.setIfInBounds_toArray, List.set_cons_zero, List.set_cons_succ]
        refine wpAnyZ_take' (i := 6) (v := ?vz7) rfl (by kernel_rfl) (by kernel_rfl) (by kernel_rfl) (fun _ _ _ h => h) (Or.inl ⟨by rfl, ?yz7⟩) ?rz7
        case yz7 => (intro w _; go_simp; refine hex_at _ _ _ (x % 16) (and15 x hx256) ?_; omega)
        simp only [Act.put, List.setIfInBounds_toArray, List.set_cons_zero, List.set_cons_succ]
        refine wpAnyZ_one' (i := 7) (by kernel_rfl) rfl (fun K hK => ?_)
        go_simp
        refine hK.out _ _ (fun _ _ => trivial) ?_
        clear hK K
        try simp only [Act.put, List.setIfInBounds_toArray, List.set_cons_zero, List.set_cons_succ]
        refine wpAnyZ_one' (i := 8) (by kernel_rfl) rfl (fun K hK => ?_)
        (refine step_out_b (by rfl) (.tmp 18) (.tmp 25) (by rfl) (B := B) (zs := zs ++ hex2 (d.take k)) (by rfl) (by exact (HR.out.1.heap (x := wr.drew) rfl).alloc _) (oa := some ⟨wr.heap.size, 0, none⟩) (m := 2) (c := 2) (ys := [hexd (x / 16), hexd (x % 16)]) (by rfl) (by exact two_bytes wr.drew (hexd (x / 16)) (hexd (x % 16)) (hexd_lt (by omega)) (hexd_lt (by omega)) _) (by decide) (by have := hlen.out; omega) (by have := HR.out.2.2; simp; omega) ?_; intro v1 w1 H1)
        refine hK.out _ _ (fun _ _ => trivial) ?_
        clear hK K
        simp only [Act.put, List.setIfInBounds_toArray, List.set_cons_zero, List.set_cons_succ]
        refine wpAnyZ_one' (i := 9) (by kernel_rfl) rfl (fun K hK => ?_)
        go_simp
        refine hK.out _ _ (fun _ _ => trivial) ?_
        clear hK K
        try simp only [Act.put, List.setIfInBounds_toArray, List.set_cons_zero, List.set_cons_succ]
        refine wpAnyZ_done (by kernel_rfl) ?_ _
        have H2 : Hid (Out B w1 v1 (zs ++ hex2 (d.take (k + 1))) ∧ Ex B w w1) := by
          refine ⟨?_, HR.out.2.1.trans ((((Ex.refl B wr).same (x := wr.drew) ⟨rfl, rfl, rfl, rfl⟩).alloc (by exact HR.out.2.2) _).trans H1.out.2)⟩
          rw [hex2_snoc d k x HX.out, ← List.append_assoc]
          exact H1.out.1
        clear H1
        go_wp2
        go_roundw
        case rel => exact ⟨k + 1, by omega, by go_num, H2.out.1, H2.out.2⟩
        case measure => simp [intOf]; omega
      · obtain rfl : k = n := by omega
        go_wp2
        go_ret
        refine ⟨_, rfl, ?_, HR.out.2.1⟩
        have h1 := HR.out.1
        rw [← HN.out, List.take_length] at h1
        rw [hexB_pos (by rw [HN.out]; omega)]
        exact h1
set_option maxRecDepth 4000 in
set_option maxHeartbeats 4000000 in
theorem l7Hex_any (w : World) (oa : Option Addr) (d : List Nat) (p : Nat) (hd : SlB w oa d.length d) (hdl : d.length ≤ 1048576) :
    Calls Tryd.prog 16 #[.slice oa d.length p] w fun e w' => ∃ g cap, e = .returned (.slice (some ⟨g, 0, none⟩) (hexB d).length cap) ∧ SlB w' (some ⟨g, 0, none⟩) (hexB d).length (hexB d) ∧ w.grownBy w' none ∧ w.heap.size ≤ g := by
  have HO : Hid (SlB w oa d.length d) := hd
  clear hd
  obtain ⟨n, hn⟩ : ∃ n, d.length = n := ⟨_, rfl⟩
  have HN : Hid (d.length = n) := hn
  rw [hn] at hdl ⊢
  clear hn
  go_enter Tryd.func16, Tryd.ntmps16
  by_cases hn0 : n = 0
  · subst hn0
    have HH : Hid (hexB d = [45]) := by show _ = _; rw [hexB, if_pos (List.length_eq_zero_iff.1 HN.out)]
    have kc := conv_lit
    go_wp2
    go_ret
    refine ⟨w.heap.size, 1, ?_, ?_, World.grownBy_alloc _ _ _, Nat.le_refl _⟩
    · rw [HH.out]; rfl
    · rw [HH.out]; exact one_byte w 45 (by decide) _ (1, 2)
  · have hnI : ((n : Int) == 0) = false := by simpa using hn0
    go_wp2
    go_loopw [4, 15] (fun v i wr => ∃ k : Nat, k ≤ n ∧ i = .int .i64 (k : Int) ∧ Out w.heap.size wr v (hex2 (d.take k)) ∧ Ex w.heap.size w wr) (fun _ i _ => n - (intOf i).toNat)
    case atStart => exact ⟨0, Nat.zero_le _, rfl, by simpa [hex2] using out0 _ w.heap.size _ (Nat.le_refl _) (heap_alloc_new _ _), (Ex.refl _ _).alloc (Nat.le_refl _) _⟩
    case round =>
      obtain ⟨k, hk, rfl, hOr, hE⟩ := hrel
      have HR : Hid (Out w.heap.size wr u4 (hex2 (d.take k)) ∧ Ex w.heap.size w wr ∧ w.heap.size ≤ wr.heap.size) := ⟨hOr, hE, hE.size (Nat.le_refl _)⟩
      clear hOr hE
      by_cases hlt : k < n
      · obtain ⟨x, hx⟩ : ∃ x, d[k]? = some x := ⟨_, List.getElem?_eq_getElem (by rw [HN.out]; exact hlt)⟩
        obtain ⟨b, off, rfl, hcell⟩ := (HO.out.grown0 HR.out.2.1.g0).2.2 (by rw [HN.out]; omega)
        have hx256 : x < 256 := HO.out.2.1 x (List.mem_of_getElem? hx)
        have c0 : wr.cell? ⟨b, off + k, none⟩ = some (.int .u8 (x : Int)) := by
          rw [hcell k (by rw [HN.out]; exact hlt), List.getD_eq_getElem?_getD, hx]
          rfl
        have HX : Hid (d[k]? = some x) := hx
        clear hx hcell
        have hlen : Hid ((hex2 (d.take k)).length ≤ 2 * 1048576) := by
          show _ ≤ _
          rw [hex2_len, List.length_take]
          have := HN.out
          omega
        have hkI : (k : Int) < (n : Int) := by omega
        go_wp2
        refine wp_region_Z (fun W => True) (fun j => false) (by kernel_rfl) ?_
        refine wpAnyZ_take' (i := 0) (v := ?vz8) rfl (by kernel_rfl) (by kernel_rfl) (by kernel_rfl) (fun _ _ _ h => h) (Or.inl ⟨by rfl, ?yz8⟩) ?rz8
        case yz8 => (intro w _; go_simp; first | done | with_reducible rfl)
        simp only [Act.put, List.setIfInBounds_toArray, List.set_cons_zero, List.set_cons_succ]
        refine wpAnyZ_take' (i := 1) (v := ?vz9) rfl (by kernel_rfl) (by kernel_rfl) (by kernel_rfl) (fun _ _ _ h => h) (Or.inl ⟨by rfl, ?yz9⟩) ?rz9
        case yz9 => (intro w _; go_simp; first | done | with_reducible rfl)
        simp only [Act.put, List.setIfInBounds_toArray, List.set_cons_zero, List.set_cons_succ]
        refine wpAnyZ_take' (i := 2) (v := ?vz10) rfl (by kernel_rfl) (by kernel_rfl) (by kernel_rfl) (fun _ _ _ h => h) (Or.inl ⟨by rfl, ?yz10⟩) ?rz10
        case yz10 => (intro w _; go_simp; first | done | with_reducible rfl)
        simp only [Act.put, List.setIfInBounds_toArray, List.set_cons_zero, List.set_cons_succ]
        refine wpAnyZ_take' (i := 5) (v := ?vz11) rfl (by kernel_rfl) (by kernel_rfl) (by kernel_rfl) (fun _ _ _ h => h) (Or.inl ⟨by rfl, ?yz11⟩) ?rz11
        case yz11 => (intro w _; go_simp; first | done | with_reducible rfl)
        simp only [Act.put, List.setIfInBounds_toArray, List.set_cons_zero, List.set_cons_succ]
        refine wpAnyZ_take' (i := 6) (v := ?vz12) rfl (by kernel_rfl) (by kernel_rfl) (by kernel_rfl) (fun _ _ _ h => h) (Or.inl ⟨by rfl, ?yz12⟩) ?rz12
        case yz12 => (intro w _; go_simp; first | done | with_reducible rfl)
        simp only [Act.put, List.setIfInBounds_toArray, List.set_cons_zero, List.set_cons_succ]
        refine wpAnyZ_take' (i := 3) (v := ?vz13) rfl (by kernel_rfl) (by kernel_rfl) (by kernel_rfl) (fun _ _ _ h => h) (Or.inl ⟨by rfl, ?yz13⟩) ?rz13
        case yz13 => (intro w _; go_simp; first | done | with_reducible rfl)
        simp only [Act.put, List.setIfInBounds_toArray, List.set_cons_zero, List.set_cons_succ]
        refine wpAnyZ_take' (i := 7) (v := ?vz14) rfl (by kernel_rfl) (by kernel_rfl) (by kernel_rfl) (fun _ _ _ h => h) (Or.inl ⟨by rfl, ?yz14⟩) ?rz14
        case yz14 => (intro w _; go_simp; first | done | with_reducible rfl)
        simp only [Act.put, List.setIfInBounds_toArray, List.set_cons_zero, List.set_cons_succ]
        refine wpAnyZ_take' (i := 4) (v := ?vz15) rfl (by kernel_rfl) (by kernel_rfl) (by kernel_rfl) (fun _ _ _ h => h) (Or.inl ⟨by rfl, ?yz15⟩) ?rz15
        case yz15 => (intro w _; go_simp; refine hex_at1 _ _ (IntKind.u8.wrap ((x : Int) / 16)) (x / 16) (by rw [IntKind.wrap_u8]; omega) (by omega) (by rw [IntKind.wrap_u8]; omega))
        simp only [Act.put, List.setIfInBounds_toArray, List.set_cons_zero, List.set_cons_succ]
        refine wpAnyZ_take' (i := 8) (v := ?vz16) rfl (by kernel_rfl) (by kernel_rfl) (by kernel_rfl) (fun _ _ _ h => h) (Or.inl ⟨by rfl, ?yz16⟩) ?rz16
        case yz16 => (intro w _; go_simp; refine hex_at _ _ ((x : Int).tmod 16) (x % 16) (by rw [Int.tmod_eq_emod_of_nonneg (by omega)]; omega) (by omega))
        simp only [Act.put, List.setIfInBounds_toArray, List.set_cons_zero, List.set_cons_succ]
        refine wpAnyZ_one' (i := 9) (by kernel_rfl) rfl (fun K hK => ?_)
        go_simp
        refine hK.out _ _ (fun _ _ => trivial) ?_
        clear hK K
        try simp only [Act.put, List.setIfInBounds_toArray, List.set_cons_zero, List.set_cons_succ]
        refine wpAnyZ_one' (i := 10) (by kernel_rfl) rfl (fun K hK => ?_)
        (refine step_out_b (by rfl) (.tmp 19) (.tmp 28) (by rfl) (B := w.heap.size) (zs := hex2 (d.take k)) (by rfl) (by exact (HR.out.1.heap (x := wr.drew) rfl).alloc _) (oa := some ⟨wr.heap.size, 0, none⟩) (m := 2) (c := 2) (ys := [hexd (x / 16), hexd (x % 16)]) (by rfl) (by exact two_bytes wr.drew (hexd (x / 16)) (hexd (x % 16)) (hexd_lt (by omega)) (hexd_lt (by omega)) _) (by decide) (by have := hlen.out; omega) (by have := HR.out.2.2; simp; omega) ?_; intro v1 w1 H1)
        refine hK.out _ _ (fun _ _ => trivial) ?_
        clear hK K
        simp only [Act.put, List.setIfInBounds_toArray, List.set_cons_zero, List.set_cons_succ]
        refine wpAnyZ_one' (i := 11) (by kernel_rfl) rfl (fun K hK => ?_)
        go_simp
        refine hK.out _ _ (fun _ _ => trivial) ?_
        clear hK K
        try simp only [Act.put, List.setIfInBounds_toArray, List.set_cons_zero, List.set_cons_succ]
        refine wpAnyZ_done (by kernel_rfl) ?_ _
        have H2 : Hid (Out w.heap.size w1 v1 (hex2 (d.take (k + 1))) ∧ Ex w.heap.size w w1) := by
          refine ⟨?_, HR.out.2.1.trans ((((Ex.refl w.heap.size wr).same (x := wr.drew) ⟨rfl, rfl, rfl, rfl⟩).alloc (by exact HR.out.2.2) _).trans H1.out.2)⟩
          rw [hex2_snoc d k x HX.out]
          exact H1.out.1
        clear H1
        go_wp2
        go_roundw
        case rel => exact ⟨k + 1, by omega, by go_num, H2.out.1, H2.out.2⟩
        case measure => simp [intOf]; omega
      · obtain rfl : k = n := by omega
        have HD : Hid (Out w.heap.size wr u4 (hexB d)) := by
          have h1 := HR.out.1
          rw [← HN.out, List.take_length] at h1
          show Out _ _ _ _
          rw [hexB_pos (by rw [HN.out]; omega)]
          exact h1
        go_wp2
        go_ret
        obtain ⟨g, cap, hv, hBg, hOw⟩ := HD.out.sl (hexB_len0 d)
        exact ⟨g, cap, by rw [hv]; rfl, hOw.sl _ rfl, HR.out.2.1.g0, hBg⟩
end Go.Proofs.YtkjjglnbbahbkaaDoor
