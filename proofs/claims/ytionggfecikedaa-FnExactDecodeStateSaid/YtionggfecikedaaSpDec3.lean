/-
  DecodeState, the model's: the function.
-/
import Derived.Test.YtionggfecikedaaSpDec2
import Derived.Test.YtionggfecikedaaRegZ
namespace Go.Proofs.Ytionggfecikedaa
open Go.RowKit

theorem SD.sv5 {w wl w3 w5 : World} {p s B : Nat} {v : Value} {L : List Se} {o : Obj} (h : SD w wl p s B v L) (h3 : wl.grownBy w3 none) (hg : (w3.alloc o).grownBy w5 v.ownBlock) : w5.cell? ⟨s, 2, none⟩ = some v ∧ w5.frozen? ⟨s, 2, none⟩ = false := by
  have hD := h.more (grownBy_alloc h3 o)
  have hv : ∀ k, v.ownBlock = some k → s + 1 ≤ k := fun k e => (h.row.1.lt k e).1
  have hsv := (hg.block s hD.slt (fun e => by have := hv s e.symm; omega)).trans hD.sv
  simp [World.cell?, World.frozen?, hsv]
set_option maxRecDepth 4000 in
set_option maxHeartbeats 12000000 in
theorem specDecodeState_any (b off len cap : Nat) (zs : List Nat) (w : World) (hsl : SlB w (some ⟨b, off, none⟩) len zs) (hlc : len ≤ cap) (hm : cap ≤ maxLen) (hlen : len ≤ 1073741824) :
    Calls Try.prog 38 #[.slice (some ⟨b, off, none⟩) len cap] w fun e w' => DecRes w w' e zs := by
  have hl : zs.length = len := hsl.1
  have hz : ∀ z ∈ zs, z < 256 := hsl.2.1
  unfold maxLen at hm
  by_cases h16 : len < 16
  · have HNO : Hid (∀ b' l', ValidS b' l' → encSt b' l' ≠ zs) := by
      intro b' l' _ he
      have := encSt_len b' l'
      rw [he] at this
      omega
    have h16' : (len : Int) < 16 := by omega
    clear hsl
    go_enter Try.func38, Try.ntmps38
    go_wp2
    refine bodyPost_ret (v := .tuple #[.agg #[.int .i64 0, .slice none 0 0, .slice none 0 0], .int .i64 5]) (by simp [results, Try.results38, go_sem]) rfl ⟨?_, .inr ⟨HNO.out, rfl⟩⟩
    repeat (first | exact grownBy_refl _ _ | apply grownBy_alloc)
  have HT : Hid (∀ (i : Nat) (X : World), i + 8 ≤ len → w.grownBy X none → Calls Try.prog 48 #[.slice (some ⟨b, off + i, none⟩) 8 (cap - i)] X fun e w' => e = .returned (.int .i64 ((at8 zs i : Nat) : Int)) ∧ w' = X) := by
    intro i X hi hX
    exact l2Get_any _ 8 (cap - i) _ X (slb_cut (hsl.grown0 hX) i 8 hi) (by decide)
  have HDt : Hid (∀ (i n : Nat) (X : World), i + n ≤ len → w.grownBy X none → SlB X (some ⟨b, off + i, none⟩) n ((zs.drop i).take n)) := fun i n X hi hX => slb_cut (hsl.grown0 hX) i n hi
  have HZ : Hid (zs.length = len ∧ (∀ z ∈ zs, z < 256) ∧ SlB w (some ⟨b, off, none⟩) len zs) := ⟨hl, hz, hsl⟩
  clear hsl hz hl
  have y0 : (8 : Int) ≤ (cap : Int) := by omega
  have y1 : (16 : Int) ≤ (len : Int) := by omega
  go_enter Try.func38, Try.ntmps38
  go_wp2_with fail
  refine (HT.out 0 _ (by omega) (World.grownBy_alloc _ _ _)).mono ?_
  rintro e w1 ⟨rfl, rfl⟩
  have HD0 : Hid (SD w ((w.alloc (.cells #[.int .i64 0, .slice none 0 0, .slice none 0 0] 57)).alloc (.cells #[.int .i64 ((at8 zs 0 : Nat) : Int), .slice none 0 0, .slice none 0 0] 57)) w.heap.size (w.heap.size + 1) (at8 zs 0) (.slice none 0 0) []) :=
    ⟨grownBy_alloc (World.grownBy_alloc _ _ _) _, (Below.heap_alloc _ _ _ (by simp)).trans (heap_alloc_new w _), heap_two w _ _, SesRow.nil _ _, Nat.le_refl _, by omega⟩
  have hB : at8 zs 0 ≤ 4611686018427387904 := at8_le zs HZ.out.2.1 0
  have HR0 : Hid (ReadTo zs (at8 zs 0) 16 []) := ReadTo.start zs
  generalize at8 zs 0 = B at *
  go_wp2
  go_loopw [6] (fun a wl => ∃ (A : Nat) (L : List Se) (v : Value), a = .int .i64 (A : Int) ∧ 16 ≤ A ∧ A ≤ len ∧ L.length ≤ 51 ∧ SD w wl w.heap.size (w.heap.size + 1) B v L ∧ ReadTo zs B A L ∧ ∀ x ∈ L, SeBig x ∧ ∀ z ∈ x.d, z < 256) (fun a _ => len - (intOf a).toNat)
  case atStart => exact ⟨16, [], _, rfl, by omega, by omega, by simp, HD0.out, HR0.out, by simp⟩
  case round =>
    clear HD0 HR0
    obtain ⟨A, L, v, rfl, hA1, hA2, hL51, hD, hRT, hbig⟩ := hrel
    have HD : Hid (SD w wr w.heap.size (w.heap.size + 1) B v L ∧ ReadTo zs B A L ∧ ∀ x ∈ L, SeBig x ∧ ∀ z ∈ x.d, z < 256) := ⟨hD, hRT, hbig⟩
    obtain ⟨q0, q1, q2, q3⟩ := hD.cells
    obtain ⟨oa, cpv, rfl, hss, hc1, hc2⟩ := hD.row.sl
    clear hD hRT hbig
    by_cases hgo : A + 32 ≤ len ∧ L.length ≤ 50
    · obtain ⟨hg1, hg2⟩ := hgo
      have i1 : (A : Int) + 32 ≤ (len : Int) := by omega
      have i2 : (L.length : Int) ≤ 50 := by omega
      have i3 : ¬ cap = A + 24 := by omega
      have i4 : A + 32 - (A + 24) = 8 := by omega
      have i5 : (A : Int) + 32 ≤ (cap : Int) := by omega
      clear hss
      go_wp2_with fail
      refine (HT.out (A + 24) wr (by omega) HD.out.1.grown).mono ?_
      rintro e w2 ⟨rfl, hw2⟩
      rw [hw2]
      clear hw2
      obtain ⟨n, hn⟩ : ∃ n, at8 zs (A + 24) = n := ⟨_, rfl⟩
      rw [hn]
      have HN : Hid (n = at8 zs (A + 24) ∧ n ≤ 4611686018427387904) := ⟨hn.symm, by rw [← hn]; exact at8_le zs HZ.out.2.1 _⟩
      have hn62 := HN.out.2
      have hs1 := HD.out.1.slt
      clear hn
      by_cases hnb : len - A - 32 < n
      · have HNO : Hid (∀ b' l', ValidS b' l' → encSt b' l' ≠ zs) := HD.out.2.1.short (by rw [HZ.out.1]; exact hg1) (by rw [HZ.out.1, ← HN.out.1]; omega)
        have i6 : (len : Int) - (A : Int) - 32 < (n : Int) := by omega
        have hpv : wr.heap[w.heap.size]? = _ := HD.out.1.pv
        have z0 : wr.cell? ⟨w.heap.size, 0, none⟩ = some (.int .i64 0) := by simp [World.cell?, hpv]
        have z1 : wr.cell? ⟨w.heap.size, 1, none⟩ = some (.slice none 0 0) := by simp [World.cell?, hpv]
        have z2 : wr.cell? ⟨w.heap.size, 2, none⟩ = some (.slice none 0 0) := by simp [World.cell?, hpv]
        have x0 : wr.frozen? ⟨w.heap.size, 0, none⟩ = false := by simp [World.frozen?, hpv]
        have x1 : wr.frozen? ⟨w.heap.size, 1, none⟩ = false := by simp [World.frozen?, hpv]
        have x2 : wr.frozen? ⟨w.heap.size, 2, none⟩ = false := by simp [World.frozen?, hpv]
        clear hpv
        go_wp2
        refine bodyPost_ret (v := .tuple #[.agg #[.int .i64 0, .slice none 0 0, .slice none 0 0], .int .i64 5]) (by simp [results, Try.results38, go_sem, z0, z1, z2]) rfl ⟨?_, .inr ⟨HNO.out, rfl⟩⟩
        exact grownBy_setNew (grownBy_setNew (grownBy_setNew HD.out.1.grown (by simp)) (by simp)) (by simp)
      · have i6 : (n : Int) ≤ (len : Int) - (A : Int) - 32 := by omega
        have hnl : A + 32 + n ≤ len := by omega
        have i7 : A + 32 + n - (A + 32) = n := by omega
        have i8 : (A : Int) + 32 + (n : Int) ≤ (cap : Int) := by omega
        have j0 : ¬ cap = A := by omega
        have j1 : ¬ cap = A + 8 := by omega
        have j2 : ¬ cap = A + 16 := by omega
        have j3 : A + 8 - A = 8 := by omega
        have j4 : A + 16 - (A + 8) = 8 := by omega
        have j5 : A + 24 - (A + 16) = 8 := by omega
        have j6 : (A : Int) + 8 ≤ (cap : Int) := by omega
        have j7 : (A : Int) + 16 ≤ (cap : Int) := by omega
        have j8 : (A : Int) + 24 ≤ (cap : Int) := by omega
        have k0 : IntKind.i64.wrap ((A : Int) + 8) = (A : Int) + 8 := IntWalk.i64_in _ (by omega)
        have k1 : IntKind.i64.wrap ((A : Int) + 16) = (A : Int) + 16 := IntWalk.i64_in _ (by omega)
        have k2 : IntKind.i64.wrap ((A : Int) + 24) = (A : Int) + 24 := IntWalk.i64_in _ (by omega)
        have k3 : IntKind.i64.wrap ((A : Int) + 32) = (A : Int) + 32 := IntWalk.i64_in _ (by omega)
        have k4 : IntKind.i64.wrap ((A : Int) + 32 + (n : Int)) = (A : Int) + 32 + (n : Int) := IntWalk.i64_in _ (by omega)
        have b0 : (0 : Int) ≤ (A : Int) := by omega
        have b1 : (A : Int) ≤ (A : Int) + 8 := by omega
        have b2 : (0 : Int) ≤ (A : Int) + 8 := by omega
        have b3 : (A : Int) + 8 ≤ (A : Int) + 16 := by omega
        have b4 : (0 : Int) ≤ (A : Int) + 16 := by omega
        have b5 : (A : Int) + 16 ≤ (A : Int) + 24 := by omega
        have b6 : (0 : Int) ≤ (A : Int) + 32 := by omega
        have b7 : (A : Int) + 32 ≤ (A : Int) + 32 + (n : Int) := by omega
        have b8 : (A : Int) ≤ (cap : Int) := by omega
        have b9 : (0 : Int) ≤ (A : Int) + 24 := by omega
        have a1 : ((A : Int) + 8).toNat = A + 8 := by omega
        have a2 : ((A : Int) + 16).toNat = A + 16 := by omega
        have a3 : ((A : Int) + 24).toNat = A + 24 := by omega
        have a4 : ((A : Int) + 32).toNat = A + 32 := by omega
        have a5 : ((A : Int) + 32 + (n : Int)).toNat = A + 32 + n := by omega
        have HSL : Hid (∀ X : World, w.grownBy X none → SlB X (if cap = A + 32 then some (⟨b, off, none⟩ : Addr) else some ⟨b, off + (A + 32), none⟩) n ((zs.drop (A + 32)).take n)) := by
          intro X hX
          exact slb_cutIf (HZ.out.2.2.grown0 hX) (A + 32) n cap hnl hlc
        obtain ⟨C1, hC1⟩ : ∃ C, at8 zs A = C := ⟨_, rfl⟩
        obtain ⟨C2, hC2⟩ : ∃ C, at8 zs (A + 8) = C := ⟨_, rfl⟩
        obtain ⟨C3, hC3⟩ : ∃ C, at8 zs (A + 16) = C := ⟨_, rfl⟩
        have HT1 : Hid (∀ X : World, w.grownBy X none → Calls Try.prog 48 #[.slice (some ⟨b, off + A, none⟩) 8 (cap - A)] X fun e w' => e = .returned (.int .i64 (C1 : Int)) ∧ w' = X) := fun X hX => by have := HT.out A X (by omega) hX; rw [hC1] at this; exact this
        have HT2 : Hid (∀ X : World, w.grownBy X none → Calls Try.prog 48 #[.slice (some ⟨b, off + (A + 8), none⟩) 8 (cap - (A + 8))] X fun e w' => e = .returned (.int .i64 (C2 : Int)) ∧ w' = X) := fun X hX => by have := HT.out (A + 8) X (by omega) hX; rw [hC2] at this; exact this
        have HT3 : Hid (∀ X : World, w.grownBy X none → Calls Try.prog 48 #[.slice (some ⟨b, off + (A + 16), none⟩) 8 (cap - (A + 16))] X fun e w' => e = .returned (.int .i64 (C3 : Int)) ∧ w' = X) := fun X hX => by have := HT.out (A + 16) X (by omega) hX; rw [hC3] at this; exact this
        have HC : Hid (at8 zs A = C1 ∧ at8 zs (A + 8) = C2 ∧ at8 zs (A + 16) = C3 ∧ C1 ≤ 4611686018427387904 ∧ C2 ≤ 4611686018427387904 ∧ C3 ≤ 4611686018427387904) := ⟨hC1, hC2, hC3, by rw [← hC1]; exact at8_le zs HZ.out.2.1 _, by rw [← hC2]; exact at8_le zs HZ.out.2.1 _, by rw [← hC3]; exact at8_le zs HZ.out.2.1 _⟩
        have HWR : Hid (w.grownBy wr none) := HD.out.1.grown
        obtain ⟨ib, TB⟩ := byteT
        clear hC1 hC2 hC3 hc1 hc2
        go_upto_region 10 with fail
        go_cut [6] (fun a wx => a = .int .i64 (A : Int) ∧ ∃ (x : Se) (g5 c5 : Nat), SD w wx w.heap.size (w.heap.size + 1) B (.slice (some ⟨g5, 0, none⟩) (L.length + 1) c5) (L ++ [x]) ∧ (x.c = C1 ∧ x.q = C2 ∧ x.i = C3 ∧ x.d = (zs.drop (A + 32)).take n))
        case first =>
          as_aux_lemma =>
            obtain ⟨ad, had⟩ : ∃ ad : Option Addr, (if cap = A + 32 then some (⟨b, off, none⟩ : Addr) else some ⟨b, off + (A + 32), none⟩) = ad := ⟨_, rfl⟩
            have HSL : Hid (∀ X : World, w.grownBy X none → SlB X ad n ((zs.drop (A + 32)).take n)) := by
              intro X hX
              have := HSL.out X hX
              rw [had] at this
              exact this
            refine wp_region_Z (fun w' => w'.cell? ⟨w.heap.size + 1, 2, none⟩ = some (.slice oa L.length cpv)) (fun j => j == 34 || j == 36) (by kernel_rfl) ?_
            refine wpAnyZ_take' (i := 0) (v := ?vz1) rfl (by kernel_rfl) (by kernel_rfl) (by kernel_rfl) (fun _ _ _ h => h) (Or.inl ⟨by rfl, ?yz1⟩) ?rz1
            case yz1 => (intro w _; go_simp; first | done | with_reducible rfl)
            simp only [Act.put, List.setIfInBounds_toArray, List.set_cons_zero, List.set_cons_succ]
            refine wpAnyZ_load' (i := 1) (y := 34) (v := .slice oa L.length cpv) rfl (by kernel_rfl) (by kernel_rfl) (by kernel_rfl) (fun _ _ _ h => h) ?exL rfl (by kernel_rfl) (Or.inl ⟨by rfl, ?yL⟩) ?hSL ?rL
            case exL =>
              intro j hj
              have hj' : j = 34 ∨ j = 36 := by simpa using hj
              rcases hj' with rfl | rfl
              · exact .inl (by kernel_rfl)
              · exact .inr (by kernel_rfl)
            case yL => (intro w hSw; go_simp; first | done | with_reducible rfl)
            case hSL => exact q2
            simp only [Act.put, List.setIfInBounds_toArray, List.set_cons_zero, List.set_cons_succ]
            refine wpAnyZ_take' (i := 2) (v := ?vz2) rfl (by kernel_rfl) (by kernel_rfl) (by kernel_rfl) (fun _ _ _ h => h) (Or.inl ⟨by rfl, ?yz2⟩) ?rz2
            case yz2 => (intro w _; go_simp; first | done | with_reducible rfl)
            simp only [Act.put, List.setIfInBounds_toArray, List.set_cons_zero, List.set_cons_succ]
            refine wpAnyZ_take' (i := 3) (v := ?vz3) rfl (by kernel_rfl) (by kernel_rfl) (by kernel_rfl) (fun _ _ _ h => h) (Or.inl ⟨by rfl, ?yz3⟩) ?rz3
            case yz3 => (intro w _; go_simp; first | done | with_reducible rfl)
            simp only [Act.put, List.setIfInBounds_toArray, List.set_cons_zero, List.set_cons_succ]
            refine wpAnyZ_take' (i := 4) (v := ?vz4) rfl (by kernel_rfl) (by kernel_rfl) (by kernel_rfl) (fun _ _ _ h => h) (Or.inl ⟨by rfl, ?yz4⟩) ?rz4
            case yz4 => (intro w _; go_simp; first | done | with_reducible rfl)
            simp only [Act.put, List.setIfInBounds_toArray, List.set_cons_zero, List.set_cons_succ]
            refine wpAnyZ_take' (i := 5) (v := ?vz5) rfl (by kernel_rfl) (by kernel_rfl) (by kernel_rfl) (fun _ _ _ h => h) (Or.inl ⟨by rfl, ?yz5⟩) ?rz5
            case yz5 => (intro w _; go_simp; first | done | with_reducible rfl)
            simp only [Act.put, List.setIfInBounds_toArray, List.set_cons_zero, List.set_cons_succ]
            refine wpAnyZ_take' (i := 6) (v := ?vz6) rfl (by kernel_rfl) (by kernel_rfl) (by kernel_rfl) (fun _ _ _ h => h) (Or.inl ⟨by rfl, ?yz6⟩) ?rz6
            case yz6 => (intro w _; go_simp; first | done | with_reducible rfl)
            simp only [Act.put, List.setIfInBounds_toArray, List.set_cons_zero, List.set_cons_succ]
            refine wpAnyZ_take' (i := 8) (v := ?vz7) rfl (by kernel_rfl) (by kernel_rfl) (by kernel_rfl) (fun _ _ _ h => h) (Or.inl ⟨by rfl, ?yz7⟩) ?rz7
            case yz7 => (intro w _; go_simp; first | done | with_reducible rfl)
            simp only [Act.put, List.setIfInBounds_toArray, List.set_cons_zero, List.set_cons_succ]
            refine wpAnyZ_take' (i := 9) (v := ?vz8) rfl (by kernel_rfl) (by kernel_rfl) (by kernel_rfl) (fun _ _ _ h => h) (Or.inl ⟨by rfl, ?yz8⟩) ?rz8
            case yz8 => (intro w _; go_simp; first | done | with_reducible rfl)
            simp only [Act.put, List.setIfInBounds_toArray, List.set_cons_zero, List.set_cons_succ]
            refine wpAnyZ_take' (i := 10) (v := ?vz9) rfl (by kernel_rfl) (by kernel_rfl) (by kernel_rfl) (fun _ _ _ h => h) (Or.inl ⟨by rfl, ?yz9⟩) ?rz9
            case yz9 => (intro w _; go_simp; first | done | with_reducible rfl)
            simp only [Act.put, List.setIfInBounds_toArray, List.set_cons_zero, List.set_cons_succ]
            refine wpAnyZ_take' (i := 11) (v := ?vz10) rfl (by kernel_rfl) (by kernel_rfl) (by kernel_rfl) (fun _ _ _ h => h) (Or.inl ⟨by rfl, ?yz10⟩) ?rz10
            case yz10 => (intro w _; go_simp; first | done | with_reducible rfl)
            simp only [Act.put, List.setIfInBounds_toArray, List.set_cons_zero, List.set_cons_succ]
            refine wpAnyZ_take' (i := 12) (v := ?vz11) rfl (by kernel_rfl) (by kernel_rfl) (by kernel_rfl) (fun _ _ _ h => h) (Or.inl ⟨by rfl, ?yz11⟩) ?rz11
            case yz11 => (intro w _; go_simp; first | done | with_reducible rfl)
            simp only [Act.put, List.setIfInBounds_toArray, List.set_cons_zero, List.set_cons_succ]
            refine wpAnyZ_take' (i := 13) (v := ?vz12) rfl (by kernel_rfl) (by kernel_rfl) (by kernel_rfl) (fun _ _ _ h => h) (Or.inl ⟨by rfl, ?yz12⟩) ?rz12
            case yz12 => (intro w _; go_simp; first | done | with_reducible rfl)
            simp only [Act.put, List.setIfInBounds_toArray, List.set_cons_zero, List.set_cons_succ]
            refine wpAnyZ_take' (i := 15) (v := ?vz13) rfl (by kernel_rfl) (by kernel_rfl) (by kernel_rfl) (fun _ _ _ h => h) (Or.inl ⟨by rfl, ?yz13⟩) ?rz13
            case yz13 => (intro w _; go_simp; first | done | with_reducible rfl)
            simp only [Act.put, List.setIfInBounds_toArray, List.set_cons_zero, List.set_cons_succ]
            refine wpAnyZ_take' (i := 16) (v := ?vz14) rfl (by kernel_rfl) (by kernel_rfl) (by kernel_rfl) (fun _ _ _ h => h) (Or.inl ⟨by rfl, ?yz14⟩) ?rz14
            case yz14 => (intro w _; go_simp; first | done | with_reducible rfl)
            simp only [Act.put, List.setIfInBounds_toArray, List.set_cons_zero, List.set_cons_succ]
            refine wpAnyZ_take' (i := 17) (v := ?vz15) rfl (by kernel_rfl) (by kernel_rfl) (by kernel_rfl) (fun _ _ _ h => h) (Or.inl ⟨by rfl, ?yz15⟩) ?rz15
            case yz15 => (intro w _; go_simp; first | done | with_reducible rfl)
            simp only [Act.put, List.setIfInBounds_toArray, List.set_cons_zero, List.set_cons_succ]
            refine wpAnyZ_take' (i := 18) (v := ?vz16) rfl (by kernel_rfl) (by kernel_rfl) (by kernel_rfl) (fun _ _ _ h => h) (Or.inl ⟨by rfl, ?yz16⟩) ?rz16
            case yz16 => (intro w _; go_simp; first | done | with_reducible rfl)
            simp only [Act.put, List.setIfInBounds_toArray, List.set_cons_zero, List.set_cons_succ]
            refine wpAnyZ_take' (i := 19) (v := ?vz17) rfl (by kernel_rfl) (by kernel_rfl) (by kernel_rfl) (fun _ _ _ h => h) (Or.inl ⟨by rfl, ?yz17⟩) ?rz17
            case yz17 => (intro w _; go_simp; first | done | with_reducible rfl)
            simp only [Act.put, List.setIfInBounds_toArray, List.set_cons_zero, List.set_cons_succ]
            refine wpAnyZ_take' (i := 20) (v := ?vz18) rfl (by kernel_rfl) (by kernel_rfl) (by kernel_rfl) (fun _ _ _ h => h) (Or.inl ⟨by rfl, ?yz18⟩) ?rz18
            case yz18 => (intro w _; go_simp; first | done | with_reducible rfl)
            simp only [Act.put, List.setIfInBounds_toArray, List.set_cons_zero, List.set_cons_succ]
            refine wpAnyZ_take' (i := 23) (v := ?vz19) rfl (by kernel_rfl) (by kernel_rfl) (by kernel_rfl) (fun _ _ _ h => h) (Or.inl ⟨by rfl, ?yz19⟩) ?rz19
            case yz19 => (intro w _; go_simp; first | done | with_reducible rfl)
            simp only [Act.put, List.setIfInBounds_toArray, List.set_cons_zero, List.set_cons_succ]
            refine wpAnyZ_take' (i := 24) (v := ?vz20) rfl (by kernel_rfl) (by kernel_rfl) (by kernel_rfl) (fun _ _ _ h => h) (Or.inl ⟨by rfl, ?yz20⟩) ?rz20
            case yz20 => (intro w _; go_simp; first | done | with_reducible rfl)
            simp only [Act.put, List.setIfInBounds_toArray, List.set_cons_zero, List.set_cons_succ]
            refine wpAnyZ_take' (i := 25) (v := ?vz21) rfl (by kernel_rfl) (by kernel_rfl) (by kernel_rfl) (fun _ _ _ h => h) (Or.inl ⟨by rfl, ?yz21⟩) ?rz21
            case yz21 => (intro w _; go_simp; first | done | with_reducible rfl)
            simp only [Act.put, List.setIfInBounds_toArray, List.set_cons_zero, List.set_cons_succ]
            refine wpAnyZ_take' (i := 26) (v := ?vz22) rfl (by kernel_rfl) (by kernel_rfl) (by kernel_rfl) (fun _ _ _ h => h) (Or.inl ⟨by rfl, ?yz22⟩) ?rz22
            case yz22 => (intro w _; go_simp; first | done | with_reducible rfl)
            simp only [Act.put, List.setIfInBounds_toArray, List.set_cons_zero, List.set_cons_succ]
            refine wpAnyZ_take' (i := 27) (v := ?vz23) rfl (by kernel_rfl) (by kernel_rfl) (by kernel_rfl) (fun _ _ _ h => h) (Or.inl ⟨by rfl, ?yz23⟩) ?rz23
            case yz23 => (intro w _; go_simp; first | done | with_reducible rfl)
            simp only [Act.put, List.setIfInBounds_toArray, List.set_cons_zero, List.set_cons_succ]
            refine wpAnyZ_take' (i := 28) (v := ?vz24) rfl (by kernel_rfl) (by kernel_rfl) (by kernel_rfl) (fun _ _ _ h => h) (Or.inl ⟨by rfl, ?yz24⟩) ?rz24
            case yz24 => (intro w _; go_simp; first | done | with_reducible rfl)
            simp only [Act.put, List.setIfInBounds_toArray, List.set_cons_zero, List.set_cons_succ]
            refine wpAnyZ_take' (i := 29) (v := ?vz25) rfl (by kernel_rfl) (by kernel_rfl) (by kernel_rfl) (fun _ _ _ h => h) (Or.inl ⟨by rfl, ?yz25⟩) ?rz25
            case yz25 => (intro w _; go_simp; first | done | with_reducible rfl)
            simp only [Act.put, List.setIfInBounds_toArray, List.set_cons_zero, List.set_cons_succ]
            refine wpAnyZ_take' (i := 30) (v := ?vz26) rfl (by kernel_rfl) (by kernel_rfl) (by kernel_rfl) (fun _ _ _ h => h) (Or.inl ⟨by rfl, ?yz26⟩) ?rz26
            case yz26 => (intro w _; go_simp; first | done | with_reducible rfl)
            simp only [Act.put, List.setIfInBounds_toArray, List.set_cons_zero, List.set_cons_succ]
            refine wpAnyZ_two' (i := 7) (k := 22) (by kernel_rfl) rfl rfl (fun K hK => ?_) (fun K hK => ?_)
            · go_simp
              go_at_call 48
              refine calls_args (args := #[.slice (some ⟨b, off + A, none⟩) 8 (cap - A)]) (by rfl) ((HT1.out _ (by repeat (first | exact HWR.out | apply grownBy_drew | apply grownBy_alloc))).mono ?_)
              rintro e w' ⟨rfl, rfl⟩
              go_wp2_with fail
              refine hK.out _ _ (fun _ h => h) ?_
              clear hK K
              try simp only [Act.put, List.setIfInBounds_toArray, List.set_cons_zero, List.set_cons_succ]
              refine wpAnyZ_two' (i := 14) (k := 22) (by kernel_rfl) rfl rfl (fun K hK => ?_) (fun K hK => ?_)
              · go_simp
                go_at_call 48
                refine calls_args (args := #[.slice (some ⟨b, off + (A + 8), none⟩) 8 (cap - (A + 8))]) (by rfl) ((HT2.out _ (by repeat (first | exact HWR.out | apply grownBy_drew | apply grownBy_alloc))).mono ?_)
                rintro e w' ⟨rfl, rfl⟩
                go_wp2_with fail
                refine hK.out _ _ (fun _ h => h) ?_
                clear hK K
                try simp only [Act.put, List.setIfInBounds_toArray, List.set_cons_zero, List.set_cons_succ]
                refine wpAnyZ_two' (i := 21) (k := 22) (by kernel_rfl) rfl rfl (fun K hK => ?_) (fun K hK => ?_)
                · go_simp
                  go_at_call 48
                  refine calls_args (args := #[.slice (some ⟨b, off + (A + 16), none⟩) 8 (cap - (A + 16))]) (by rfl) ((HT3.out _ (by repeat (first | exact HWR.out | apply grownBy_drew | apply grownBy_alloc))).mono ?_)
                  rintro e w' ⟨rfl, rfl⟩
                  go_wp2_with fail
                  refine hK.out _ _ (fun _ h => h) ?_
                  clear hK K
                  try simp only [Act.put, List.setIfInBounds_toArray, List.set_cons_zero, List.set_cons_succ]
                  refine wpAnyZ_one' (i := 22) (by kernel_rfl) rfl (fun K hK => ?_)
                  go_simp
                  refine hK.out _ _ (fun _ h => (((bcell (World.grownBy_alloc wr.drew _ none)).1 _ _ hs1).trans h)) ?_
                  clear hK K
                  try simp only [Act.put, List.setIfInBounds_toArray, List.set_cons_zero, List.set_cons_succ]
                  refine wpAnyZ_one' (i := 31) (by kernel_rfl) rfl (fun K hK => ?_)
                  (refine step_append_b (by rfl) (.tmp 68) (.tmp 76) TB (by rfl) (base := wr.heap.size) (g := wr.heap.size) (n := 0) (cap := 0) (xs := []) (by rfl) (by exact row0 _ _ wr.heap.size _ (Nat.le_refl _) (heap_alloc_new _ _)) (oa := ad) (m := n) (c := cap - (A + 32)) (zs := (zs.drop (A + 32)).take n) (by rfl) (by exact HSL.out _ (by repeat (first | exact HWR.out | apply grownBy_drew | apply grownBy_alloc))) (by omega) (by simp) ?_; intro g3 c3 w3 hown hgr hat hsz; have h3g : wr.grownBy w3 none := (grownBy_new (g := wr.heap.size) (by repeat (first | exact grownBy_refl _ _ | apply grownBy_drew | apply grownBy_alloc)) hgr.out (Nat.le_refl _)); have tS3 : w3.cell? ⟨w.heap.size + 1, 2, none⟩ = some (.slice oa L.length cpv) := (((bcell h3g).1 _ _ hs1).trans q2); have hs3 : w.heap.size + 1 < w3.heap.size := (Nat.lt_of_lt_of_le hs1 h3g.size); have fS3 : w3.frozen? ⟨w.heap.size + 1, 2, none⟩ = false := (((bcell h3g).2 _ _ hs1).trans q3); have HW3 : Hid (w.grownBy w3 none) := (grownBy_trans HWR.out h3g))
                  refine hK.out _ _ (fun _ _ => tS3) ?_
                  clear hK K
                  simp only [Act.put, List.setIfInBounds_toArray, List.set_cons_zero, List.set_cons_succ]
                  refine wpAnyZ_take' (i := 32) (v := ?vz28_1) rfl (by kernel_rfl) (by kernel_rfl) (by kernel_rfl) (fun _ _ _ h => h) (Or.inl ⟨by rfl, ?yz28_1⟩) ?rz28_1
                  case yz28_1 => (intro w _; go_simp; first | done | with_reducible rfl)
                  simp only [Act.put, List.setIfInBounds_toArray, List.set_cons_zero, List.set_cons_succ]
                  refine wpAnyZ_one' (i := 33) (by kernel_rfl) rfl (fun K hK => ?_)
                  go_simp
                  refine hK.out _ _ (fun _ h => (((bcell (World.grownBy_alloc w3 _ none)).1 _ _ hs3).trans h)) ?_
                  clear hK K
                  try simp only [Act.put, List.setIfInBounds_toArray, List.set_cons_zero, List.set_cons_succ]
                  refine wpAnyZ_one' (i := 34) (by kernel_rfl) rfl (fun K hK => ?_)
                  (refine step_append_s (by rfl) (.tmp 47) (.tmp 79) (by rfl) (base := w.heap.size + 1 + 1) (k := L.length) (Y := w3.heap.size) (v := .slice oa L.length cpv) (xs := L.flatMap Se.cells) (by rfl) (by exact World.ownsRow.alloc ((HD.out.1.row.grown h3g (by simp)).1) _) (by rfl) (c := (C1 : Int)) (q := (C2 : Int)) (i := (C3 : Int)) (og := some ⟨g3, 0, none⟩) (n := _) (cp := c3) (by exact heap_alloc_new _ _) (by omega) (by have := h3g.size; simp; omega) ?_; intro g5 c5 w5 hown5 hgr5; obtain ⟨tS5, fS5⟩ := HD.out.1.sv5 h3g hgr5.out)
                  refine hK.out _ _ (fun h => by cases h) ?_
                  clear hK K
                  simp only [Act.put, List.setIfInBounds_toArray, List.set_cons_zero, List.set_cons_succ]
                  refine wpAnyZ_take' (i := 35) (v := ?vz27_1) rfl (by kernel_rfl) (by kernel_rfl) (by kernel_rfl) (fun _ _ _ h => h) (Or.inl ⟨by rfl, ?yz27_1⟩) ?rz27_1
                  case yz27_1 => (intro w _; go_simp; first | done | with_reducible rfl)
                  simp only [Act.put, List.setIfInBounds_toArray, List.set_cons_zero, List.set_cons_succ]
                  refine wpAnyZ_one' (i := 36) (by kernel_rfl) rfl (fun K hK => ?_)
                  go_simp
                  refine hK.out _ _ (fun h => by cases h) ?_
                  clear hK K
                  try simp only [Act.put, List.setIfInBounds_toArray, List.set_cons_zero, List.set_cons_succ]
                  refine wpAnyZ_done (by kernel_rfl) ?_ _
                  have hdl : ((zs.drop (A + 32)).take n).length = n := by rw [List.length_take, List.length_drop, HZ.out.1]; omega
                  have hrow3 := hown.out
                  rw [Nat.zero_add, List.nil_append] at hrow3
                  have hO3 : Own w3 5 g3 ((zs.drop (A + 32)).take n) := own_made hrow3 (fun z hz => HZ.out.2.1 z (List.mem_of_mem_drop (List.mem_of_mem_take hz)))
                  have hg3 := (hrow3.lt g3 rfl).1
                  have HSD : Hid (SD w (w5.setCell ⟨w.heap.size + 1, 2, none⟩ (.slice (some ⟨g5, 0, none⟩) (L.length + 1) c5)) w.heap.size (w.heap.size + 1) B (.slice (some ⟨g5, 0, none⟩) (L.length + 1) c5) (L ++ [⟨C1, C2, C3, (zs.drop (A + 32)).take n, some g3, c3⟩])) := by
                    refine (HD.out.1.more (grownBy_alloc h3g _)).put ⟨C1, C2, C3, (zs.drop (A + 32)).take n, some g3, c3⟩ ⟨?_, fun h => (by cases h), fun g h => ?_⟩ (fun g h hm' => ?_) ?_ hgr5.out
                    · exact ((hO3.s rfl).grown0 (World.grownBy_alloc _ _ _))
                    · cases h; omega
                    · cases h
                      have := HD.out.1.row.lt g3 hm'
                      omega
                    · have h1 := hown5.out
                      simp only [Se.cells, oad, Option.map_some, hdl]
                      first | exact h1 | simpa using h1
                  clear hrow3 hO3 hown hgr hat hown5 hgr5
                  go_wp2_with fail
                  go_meet
                  case rel => exact ⟨rfl, _, g5, c5, HSD.out, rfl, rfl, rfl, rfl⟩
                · go_simp
                  refine hK.out _ _ (fun _ h => (((bcell (World.grownBy_alloc wr.drew _ none)).1 _ _ hs1).trans h)) ?_
                  clear hK K
                  try simp only [Act.put, List.setIfInBounds_toArray, List.set_cons_zero, List.set_cons_succ]
                  refine wpAnyZ_one' (i := 21) (by kernel_rfl) rfl (fun K hK => ?_)
                  go_simp
                  go_at_call 48
                  refine calls_args (args := #[.slice (some ⟨b, off + (A + 16), none⟩) 8 (cap - (A + 16))]) (by rfl) ((HT3.out _ (by repeat (first | exact HWR.out | apply grownBy_drew | apply grownBy_alloc))).mono ?_)
                  rintro e w' ⟨rfl, rfl⟩
                  go_wp2_with fail
                  refine hK.out _ _ (fun _ h => h) ?_
                  clear hK K
                  try simp only [Act.put, List.setIfInBounds_toArray, List.set_cons_zero, List.set_cons_succ]
                  refine wpAnyZ_one' (i := 31) (by kernel_rfl) rfl (fun K hK => ?_)
                  (refine step_append_b (by rfl) (.tmp 68) (.tmp 76) TB (by rfl) (base := wr.heap.size) (g := wr.heap.size) (n := 0) (cap := 0) (xs := []) (by rfl) (by exact row0 _ _ wr.heap.size _ (Nat.le_refl _) (heap_alloc_new _ _)) (oa := ad) (m := n) (c := cap - (A + 32)) (zs := (zs.drop (A + 32)).take n) (by rfl) (by exact HSL.out _ (by repeat (first | exact HWR.out | apply grownBy_drew | apply grownBy_alloc))) (by omega) (by simp) ?_; intro g3 c3 w3 hown hgr hat hsz; have h3g : wr.grownBy w3 none := (grownBy_new (g := wr.heap.size) (by repeat (first | exact grownBy_refl _ _ | apply grownBy_drew | apply grownBy_alloc)) hgr.out (Nat.le_refl _)); have tS3 : w3.cell? ⟨w.heap.size + 1, 2, none⟩ = some (.slice oa L.length cpv) := (((bcell h3g).1 _ _ hs1).trans q2); have hs3 : w.heap.size + 1 < w3.heap.size := (Nat.lt_of_lt_of_le hs1 h3g.size); have fS3 : w3.frozen? ⟨w.heap.size + 1, 2, none⟩ = false := (((bcell h3g).2 _ _ hs1).trans q3); have HW3 : Hid (w.grownBy w3 none) := (grownBy_trans HWR.out h3g))
                  refine hK.out _ _ (fun _ _ => tS3) ?_
                  clear hK K
                  simp only [Act.put, List.setIfInBounds_toArray, List.set_cons_zero, List.set_cons_succ]
                  refine wpAnyZ_take' (i := 32) (v := ?vz28_2) rfl (by kernel_rfl) (by kernel_rfl) (by kernel_rfl) (fun _ _ _ h => h) (Or.inl ⟨by rfl, ?yz28_2⟩) ?rz28_2
                  case yz28_2 => (intro w _; go_simp; first | done | with_reducible rfl)
                  simp only [Act.put, List.setIfInBounds_toArray, List.set_cons_zero, List.set_cons_succ]
                  refine wpAnyZ_one' (i := 33) (by kernel_rfl) rfl (fun K hK => ?_)
                  go_simp
                  refine hK.out _ _ (fun _ h => (((bcell (World.grownBy_alloc w3 _ none)).1 _ _ hs3).trans h)) ?_
                  clear hK K
                  try simp only [Act.put, List.setIfInBounds_toArray, List.set_cons_zero, List.set_cons_succ]
                  refine wpAnyZ_one' (i := 34) (by kernel_rfl) rfl (fun K hK => ?_)
                  (refine step_append_s (by rfl) (.tmp 47) (.tmp 79) (by rfl) (base := w.heap.size + 1 + 1) (k := L.length) (Y := w3.heap.size) (v := .slice oa L.length cpv) (xs := L.flatMap Se.cells) (by rfl) (by exact World.ownsRow.alloc ((HD.out.1.row.grown h3g (by simp)).1) _) (by rfl) (c := (C1 : Int)) (q := (C2 : Int)) (i := (C3 : Int)) (og := some ⟨g3, 0, none⟩) (n := _) (cp := c3) (by exact heap_alloc_new _ _) (by omega) (by have := h3g.size; simp; omega) ?_; intro g5 c5 w5 hown5 hgr5; obtain ⟨tS5, fS5⟩ := HD.out.1.sv5 h3g hgr5.out)
                  refine hK.out _ _ (fun h => by cases h) ?_
                  clear hK K
                  simp only [Act.put, List.setIfInBounds_toArray, List.set_cons_zero, List.set_cons_succ]
                  refine wpAnyZ_take' (i := 35) (v := ?vz27_2) rfl (by kernel_rfl) (by kernel_rfl) (by kernel_rfl) (fun _ _ _ h => h) (Or.inl ⟨by rfl, ?yz27_2⟩) ?rz27_2
                  case yz27_2 => (intro w _; go_simp; first | done | with_reducible rfl)
                  simp only [Act.put, List.setIfInBounds_toArray, List.set_cons_zero, List.set_cons_succ]
                  refine wpAnyZ_one' (i := 36) (by kernel_rfl) rfl (fun K hK => ?_)
                  go_simp
                  refine hK.out _ _ (fun h => by cases h) ?_
                  clear hK K
                  try simp only [Act.put, List.setIfInBounds_toArray, List.set_cons_zero, List.set_cons_succ]
                  refine wpAnyZ_done (by kernel_rfl) ?_ _
                  have hdl : ((zs.drop (A + 32)).take n).length = n := by rw [List.length_take, List.length_drop, HZ.out.1]; omega
                  have hrow3 := hown.out
                  rw [Nat.zero_add, List.nil_append] at hrow3
                  have hO3 : Own w3 5 g3 ((zs.drop (A + 32)).take n) := own_made hrow3 (fun z hz => HZ.out.2.1 z (List.mem_of_mem_drop (List.mem_of_mem_take hz)))
                  have hg3 := (hrow3.lt g3 rfl).1
                  have HSD : Hid (SD w (w5.setCell ⟨w.heap.size + 1, 2, none⟩ (.slice (some ⟨g5, 0, none⟩) (L.length + 1) c5)) w.heap.size (w.heap.size + 1) B (.slice (some ⟨g5, 0, none⟩) (L.length + 1) c5) (L ++ [⟨C1, C2, C3, (zs.drop (A + 32)).take n, some g3, c3⟩])) := by
                    refine (HD.out.1.more (grownBy_alloc h3g _)).put ⟨C1, C2, C3, (zs.drop (A + 32)).take n, some g3, c3⟩ ⟨?_, fun h => (by cases h), fun g h => ?_⟩ (fun g h hm' => ?_) ?_ hgr5.out
                    · exact ((hO3.s rfl).grown0 (World.grownBy_alloc _ _ _))
                    · cases h; omega
                    · cases h
                      have := HD.out.1.row.lt g3 hm'
                      omega
                    · have h1 := hown5.out
                      simp only [Se.cells, oad, Option.map_some, hdl]
                      first | exact h1 | simpa using h1
                  clear hrow3 hO3 hown hgr hat hown5 hgr5
                  go_wp2_with fail
                  go_meet
                  case rel => exact ⟨rfl, _, g5, c5, HSD.out, rfl, rfl, rfl, rfl⟩
              · go_simp
                refine hK.out _ _ (fun _ h => (((bcell (World.grownBy_alloc wr.drew _ none)).1 _ _ hs1).trans h)) ?_
                clear hK K
                try simp only [Act.put, List.setIfInBounds_toArray, List.set_cons_zero, List.set_cons_succ]
                refine wpAnyZ_one' (i := 14) (by kernel_rfl) rfl (fun K hK => ?_)
                go_simp
                go_at_call 48
                refine calls_args (args := #[.slice (some ⟨b, off + (A + 8), none⟩) 8 (cap - (A + 8))]) (by rfl) ((HT2.out _ (by repeat (first | exact HWR.out | apply grownBy_drew | apply grownBy_alloc))).mono ?_)
                rintro e w' ⟨rfl, rfl⟩
                go_wp2_with fail
                refine hK.out _ _ (fun _ h => h) ?_
                clear hK K
                try simp only [Act.put, List.setIfInBounds_toArray, List.set_cons_zero, List.set_cons_succ]
                refine wpAnyZ_one' (i := 21) (by kernel_rfl) rfl (fun K hK => ?_)
                go_simp
                go_at_call 48
                refine calls_args (args := #[.slice (some ⟨b, off + (A + 16), none⟩) 8 (cap - (A + 16))]) (by rfl) ((HT3.out _ (by repeat (first | exact HWR.out | apply grownBy_drew | apply grownBy_alloc))).mono ?_)
                rintro e w' ⟨rfl, rfl⟩
                go_wp2_with fail
                refine hK.out _ _ (fun _ h => h) ?_
                clear hK K
                try simp only [Act.put, List.setIfInBounds_toArray, List.set_cons_zero, List.set_cons_succ]
                refine wpAnyZ_one' (i := 31) (by kernel_rfl) rfl (fun K hK => ?_)
                (refine step_append_b (by rfl) (.tmp 68) (.tmp 76) TB (by rfl) (base := wr.heap.size) (g := wr.heap.size) (n := 0) (cap := 0) (xs := []) (by rfl) (by exact row0 _ _ wr.heap.size _ (Nat.le_refl _) (heap_alloc_new _ _)) (oa := ad) (m := n) (c := cap - (A + 32)) (zs := (zs.drop (A + 32)).take n) (by rfl) (by exact HSL.out _ (by repeat (first | exact HWR.out | apply grownBy_drew | apply grownBy_alloc))) (by omega) (by simp) ?_; intro g3 c3 w3 hown hgr hat hsz; have h3g : wr.grownBy w3 none := (grownBy_new (g := wr.heap.size) (by repeat (first | exact grownBy_refl _ _ | apply grownBy_drew | apply grownBy_alloc)) hgr.out (Nat.le_refl _)); have tS3 : w3.cell? ⟨w.heap.size + 1, 2, none⟩ = some (.slice oa L.length cpv) := (((bcell h3g).1 _ _ hs1).trans q2); have hs3 : w.heap.size + 1 < w3.heap.size := (Nat.lt_of_lt_of_le hs1 h3g.size); have fS3 : w3.frozen? ⟨w.heap.size + 1, 2, none⟩ = false := (((bcell h3g).2 _ _ hs1).trans q3); have HW3 : Hid (w.grownBy w3 none) := (grownBy_trans HWR.out h3g))
                refine hK.out _ _ (fun _ _ => tS3) ?_
                clear hK K
                simp only [Act.put, List.setIfInBounds_toArray, List.set_cons_zero, List.set_cons_succ]
                refine wpAnyZ_take' (i := 32) (v := ?vz28_3) rfl (by kernel_rfl) (by kernel_rfl) (by kernel_rfl) (fun _ _ _ h => h) (Or.inl ⟨by rfl, ?yz28_3⟩) ?rz28_3
                case yz28_3 => (intro w _; go_simp; first | done | with_reducible rfl)
                simp only [Act.put, List.setIfInBounds_toArray, List.set_cons_zero, List.set_cons_succ]
                refine wpAnyZ_one' (i := 33) (by kernel_rfl) rfl (fun K hK => ?_)
                go_simp
                refine hK.out _ _ (fun _ h => (((bcell (World.grownBy_alloc w3 _ none)).1 _ _ hs3).trans h)) ?_
                clear hK K
                try simp only [Act.put, List.setIfInBounds_toArray, List.set_cons_zero, List.set_cons_succ]
                refine wpAnyZ_one' (i := 34) (by kernel_rfl) rfl (fun K hK => ?_)
                (refine step_append_s (by rfl) (.tmp 47) (.tmp 79) (by rfl) (base := w.heap.size + 1 + 1) (k := L.length) (Y := w3.heap.size) (v := .slice oa L.length cpv) (xs := L.flatMap Se.cells) (by rfl) (by exact World.ownsRow.alloc ((HD.out.1.row.grown h3g (by simp)).1) _) (by rfl) (c := (C1 : Int)) (q := (C2 : Int)) (i := (C3 : Int)) (og := some ⟨g3, 0, none⟩) (n := _) (cp := c3) (by exact heap_alloc_new _ _) (by omega) (by have := h3g.size; simp; omega) ?_; intro g5 c5 w5 hown5 hgr5; obtain ⟨tS5, fS5⟩ := HD.out.1.sv5 h3g hgr5.out)
                refine hK.out _ _ (fun h => by cases h) ?_
                clear hK K
                simp only [Act.put, List.setIfInBounds_toArray, List.set_cons_zero, List.set_cons_succ]
                refine wpAnyZ_take' (i := 35) (v := ?vz27_3) rfl (by kernel_rfl) (by kernel_rfl) (by kernel_rfl) (fun _ _ _ h => h) (Or.inl ⟨by rfl, ?yz27_3⟩) ?rz27_3
                case yz27_3 => (intro w _; go_simp; first | done | with_reducible rfl)
                simp only [Act.put, List.setIfInBounds_toArray, List.set_cons_zero, List.set_cons_succ]
                refine wpAnyZ_one' (i := 36) (by kernel_rfl) rfl (fun K hK => ?_)
                go_simp
                refine hK.out _ _ (fun h => by cases h) ?_
                clear hK K
                try simp only [Act.put, List.setIfInBounds_toArray, List.set_cons_zero, List.set_cons_succ]
                refine wpAnyZ_done (by kernel_rfl) ?_ _
                have hdl : ((zs.drop (A + 32)).take n).length = n := by rw [List.length_take, List.length_drop, HZ.out.1]; omega
                have hrow3 := hown.out
                rw [Nat.zero_add, List.nil_append] at hrow3
                have hO3 : Own w3 5 g3 ((zs.drop (A + 32)).take n) := own_made hrow3 (fun z hz => HZ.out.2.1 z (List.mem_of_mem_drop (List.mem_of_mem_take hz)))
                have hg3 := (hrow3.lt g3 rfl).1
                have HSD : Hid (SD w (w5.setCell ⟨w.heap.size + 1, 2, none⟩ (.slice (some ⟨g5, 0, none⟩) (L.length + 1) c5)) w.heap.size (w.heap.size + 1) B (.slice (some ⟨g5, 0, none⟩) (L.length + 1) c5) (L ++ [⟨C1, C2, C3, (zs.drop (A + 32)).take n, some g3, c3⟩])) := by
                  refine (HD.out.1.more (grownBy_alloc h3g _)).put ⟨C1, C2, C3, (zs.drop (A + 32)).take n, some g3, c3⟩ ⟨?_, fun h => (by cases h), fun g h => ?_⟩ (fun g h hm' => ?_) ?_ hgr5.out
                  · exact ((hO3.s rfl).grown0 (World.grownBy_alloc _ _ _))
                  · cases h; omega
                  · cases h
                    have := HD.out.1.row.lt g3 hm'
                    omega
                  · have h1 := hown5.out
                    simp only [Se.cells, oad, Option.map_some, hdl]
                    first | exact h1 | simpa using h1
                clear hrow3 hO3 hown hgr hat hown5 hgr5
                go_wp2_with fail
                go_meet
                case rel => exact ⟨rfl, _, g5, c5, HSD.out, rfl, rfl, rfl, rfl⟩
            · go_simp
              refine hK.out _ _ (fun _ h => (((bcell (World.grownBy_alloc wr.drew _ none)).1 _ _ hs1).trans h)) ?_
              clear hK K
              try simp only [Act.put, List.setIfInBounds_toArray, List.set_cons_zero, List.set_cons_succ]
              refine wpAnyZ_one' (i := 7) (by kernel_rfl) rfl (fun K hK => ?_)
              go_simp
              go_at_call 48
              refine calls_args (args := #[.slice (some ⟨b, off + A, none⟩) 8 (cap - A)]) (by rfl) ((HT1.out _ (by repeat (first | exact HWR.out | apply grownBy_drew | apply grownBy_alloc))).mono ?_)
              rintro e w' ⟨rfl, rfl⟩
              go_wp2_with fail
              refine hK.out _ _ (fun _ h => h) ?_
              clear hK K
              try simp only [Act.put, List.setIfInBounds_toArray, List.set_cons_zero, List.set_cons_succ]
              refine wpAnyZ_one' (i := 14) (by kernel_rfl) rfl (fun K hK => ?_)
              go_simp
              go_at_call 48
              refine calls_args (args := #[.slice (some ⟨b, off + (A + 8), none⟩) 8 (cap - (A + 8))]) (by rfl) ((HT2.out _ (by repeat (first | exact HWR.out | apply grownBy_drew | apply grownBy_alloc))).mono ?_)
              rintro e w' ⟨rfl, rfl⟩
              go_wp2_with fail
              refine hK.out _ _ (fun _ h => h) ?_
              clear hK K
              try simp only [Act.put, List.setIfInBounds_toArray, List.set_cons_zero, List.set_cons_succ]
              refine wpAnyZ_one' (i := 21) (by kernel_rfl) rfl (fun K hK => ?_)
              go_simp
              go_at_call 48
              refine calls_args (args := #[.slice (some ⟨b, off + (A + 16), none⟩) 8 (cap - (A + 16))]) (by rfl) ((HT3.out _ (by repeat (first | exact HWR.out | apply grownBy_drew | apply grownBy_alloc))).mono ?_)
              rintro e w' ⟨rfl, rfl⟩
              go_wp2_with fail
              refine hK.out _ _ (fun _ h => h) ?_
              clear hK K
              try simp only [Act.put, List.setIfInBounds_toArray, List.set_cons_zero, List.set_cons_succ]
              refine wpAnyZ_one' (i := 31) (by kernel_rfl) rfl (fun K hK => ?_)
              (refine step_append_b (by rfl) (.tmp 68) (.tmp 76) TB (by rfl) (base := wr.heap.size) (g := wr.heap.size) (n := 0) (cap := 0) (xs := []) (by rfl) (by exact row0 _ _ wr.heap.size _ (Nat.le_refl _) (heap_alloc_new _ _)) (oa := ad) (m := n) (c := cap - (A + 32)) (zs := (zs.drop (A + 32)).take n) (by rfl) (by exact HSL.out _ (by repeat (first | exact HWR.out | apply grownBy_drew | apply grownBy_alloc))) (by omega) (by simp) ?_; intro g3 c3 w3 hown hgr hat hsz; have h3g : wr.grownBy w3 none := (grownBy_new (g := wr.heap.size) (by repeat (first | exact grownBy_refl _ _ | apply grownBy_drew | apply grownBy_alloc)) hgr.out (Nat.le_refl _)); have tS3 : w3.cell? ⟨w.heap.size + 1, 2, none⟩ = some (.slice oa L.length cpv) := (((bcell h3g).1 _ _ hs1).trans q2); have hs3 : w.heap.size + 1 < w3.heap.size := (Nat.lt_of_lt_of_le hs1 h3g.size); have fS3 : w3.frozen? ⟨w.heap.size + 1, 2, none⟩ = false := (((bcell h3g).2 _ _ hs1).trans q3); have HW3 : Hid (w.grownBy w3 none) := (grownBy_trans HWR.out h3g))
              refine hK.out _ _ (fun _ _ => tS3) ?_
              clear hK K
              simp only [Act.put, List.setIfInBounds_toArray, List.set_cons_zero, List.set_cons_succ]
              refine wpAnyZ_take' (i := 32) (v := ?vz28_4) rfl (by kernel_rfl) (by kernel_rfl) (by kernel_rfl) (fun _ _ _ h => h) (Or.inl ⟨by rfl, ?yz28_4⟩) ?rz28_4
              case yz28_4 => (intro w _; go_simp; first | done | with_reducible rfl)
              simp only [Act.put, List.setIfInBounds_toArray, List.set_cons_zero, List.set_cons_succ]
              refine wpAnyZ_one' (i := 33) (by kernel_rfl) rfl (fun K hK => ?_)
              go_simp
              refine hK.out _ _ (fun _ h => (((bcell (World.grownBy_alloc w3 _ none)).1 _ _ hs3).trans h)) ?_
              clear hK K
              try simp only [Act.put, List.setIfInBounds_toArray, List.set_cons_zero, List.set_cons_succ]
              refine wpAnyZ_one' (i := 34) (by kernel_rfl) rfl (fun K hK => ?_)
              (refine step_append_s (by rfl) (.tmp 47) (.tmp 79) (by rfl) (base := w.heap.size + 1 + 1) (k := L.length) (Y := w3.heap.size) (v := .slice oa L.length cpv) (xs := L.flatMap Se.cells) (by rfl) (by exact World.ownsRow.alloc ((HD.out.1.row.grown h3g (by simp)).1) _) (by rfl) (c := (C1 : Int)) (q := (C2 : Int)) (i := (C3 : Int)) (og := some ⟨g3, 0, none⟩) (n := _) (cp := c3) (by exact heap_alloc_new _ _) (by omega) (by have := h3g.size; simp; omega) ?_; intro g5 c5 w5 hown5 hgr5; obtain ⟨tS5, fS5⟩ := HD.out.1.sv5 h3g hgr5.out)
              refine hK.out _ _ (fun h => by cases h) ?_
              clear hK K
              simp only [Act.put, List.setIfInBounds_toArray, List.set_cons_zero, List.set_cons_succ]
              refine wpAnyZ_take' (i := 35) (v := ?vz27_4) rfl (by kernel_rfl) (by kernel_rfl) (by kernel_rfl) (fun _ _ _ h => h) (Or.inl ⟨by rfl, ?yz27_4⟩) ?rz27_4
              case yz27_4 => (intro w _; go_simp; first | done | with_reducible rfl)
              simp only [Act.put, List.setIfInBounds_toArray, List.set_cons_zero, List.set_cons_succ]
              refine wpAnyZ_one' (i := 36) (by kernel_rfl) rfl (fun K hK => ?_)
              go_simp
              refine hK.out _ _ (fun h => by cases h) ?_
              clear hK K
              try simp only [Act.put, List.setIfInBounds_toArray, List.set_cons_zero, List.set_cons_succ]
              refine wpAnyZ_done (by kernel_rfl) ?_ _
              have hdl : ((zs.drop (A + 32)).take n).length = n := by rw [List.length_take, List.length_drop, HZ.out.1]; omega
              have hrow3 := hown.out
              rw [Nat.zero_add, List.nil_append] at hrow3
              have hO3 : Own w3 5 g3 ((zs.drop (A + 32)).take n) := own_made hrow3 (fun z hz => HZ.out.2.1 z (List.mem_of_mem_drop (List.mem_of_mem_take hz)))
              have hg3 := (hrow3.lt g3 rfl).1
              have HSD : Hid (SD w (w5.setCell ⟨w.heap.size + 1, 2, none⟩ (.slice (some ⟨g5, 0, none⟩) (L.length + 1) c5)) w.heap.size (w.heap.size + 1) B (.slice (some ⟨g5, 0, none⟩) (L.length + 1) c5) (L ++ [⟨C1, C2, C3, (zs.drop (A + 32)).take n, some g3, c3⟩])) := by
                refine (HD.out.1.more (grownBy_alloc h3g _)).put ⟨C1, C2, C3, (zs.drop (A + 32)).take n, some g3, c3⟩ ⟨?_, fun h => (by cases h), fun g h => ?_⟩ (fun g h hm' => ?_) ?_ hgr5.out
                · exact ((hO3.s rfl).grown0 (World.grownBy_alloc _ _ _))
                · cases h; omega
                · cases h
                  have := HD.out.1.row.lt g3 hm'
                  omega
                · have h1 := hown5.out
                  simp only [Se.cells, oad, Option.map_some, hdl]
                  first | exact h1 | simpa using h1
              clear hrow3 hO3 hown hgr hat hown5 hgr5
              go_wp2_with fail
              go_meet
              case rel => exact ⟨rfl, _, g5, c5, HSD.out, rfl, rfl, rfl, rfl⟩
        case rest =>
          obtain ⟨rfl, x, g5, c5, hSD, hx⟩ := hcut
          have HSD : Hid (SD w wc w.heap.size (w.heap.size + 1) B (.slice (some ⟨g5, 0, none⟩) (L.length + 1) c5) (L ++ [x]) ∧ ReadTo zs B (A + (32 + n)) (L ++ [x]) ∧ ∀ y ∈ L ++ [x], SeBig y ∧ ∀ z ∈ y.d, z < 256) := by
            obtain ⟨e1, e2, e3, e4⟩ := hx
            obtain ⟨c1, c2, c3, c4, c5, c6⟩ := HC.out
            refine ⟨hSD, HD.out.2.1.step (by rw [HZ.out.1]; exact hg1) HN.out.1 ⟨by rw [e1, c1], by rw [e2, c2], by rw [e3, c3], e4⟩, fun y hy => ?_⟩
            rcases List.mem_append.1 hy with h | h
            · exact HD.out.2.2 y h
            · obtain rfl : y = x := by simpa using h
              refine ⟨⟨by omega, by omega, by omega, ?_⟩, fun z hz => ?_⟩
              · rw [e4, List.length_take]; omega
              · rw [e4] at hz; exact HZ.out.2.1 z (List.mem_of_mem_drop (List.mem_of_mem_take hz))
          have k5 : IntKind.i64.wrap ((32 : Int) + (n : Int)) = (32 : Int) + (n : Int) := IntWalk.i64_in _ (by omega)
          have k6 : IntKind.i64.wrap ((A : Int) + ((32 : Int) + (n : Int))) = (A : Int) + ((32 : Int) + (n : Int)) := IntWalk.i64_in _ (by omega)
          clear hx hSD HSL HT1 HT2 HT3 HC HWR
          go_wp2
          go_roundw
          case rel => exact ⟨A + (32 + n), L ++ [x], _, by go_num, by omega, by omega, by simp; omega, by have := HSD.out.1; simpa using this, HSD.out.2⟩
          case measure => simp [intOf]; omega
    · have HALL : Hid (∀ b' l', ValidS b' l' → encSt b' l' = zs → B = b' ∧ L.map Se.tell = l') := fun b' l' hV he => HD.out.2.1.all (by rw [HZ.out.1]; exact hgo) hV he
      have hpv : wr.heap[w.heap.size]? = _ := HD.out.1.pv
      have z0 : wr.cell? ⟨w.heap.size, 0, none⟩ = some (.int .i64 0) := by simp [World.cell?, hpv]
      have HPV : Hid (wr.heap[w.heap.size]? = some (.cells #[.int .i64 0, .slice none 0 0, .slice none 0 0] 57 (0, 0))) := hpv
      have hps : w.heap.size < wr.heap.size := (Array.getElem?_eq_some_iff.1 hpv).1
      have HGR : Hid (w.grownBy wr none) := HD.out.1.grown
      have HSS : Hid (SesSl wr oa L ∧ SesRow wr (w.heap.size + 1 + 1) (.slice oa L.length cpv) L ∧ (∀ x ∈ L, SeBig x ∧ ∀ z ∈ x.d, z < 256)) := ⟨hss, HD.out.1.row, HD.out.2.2⟩
      clear hpv hss z0 HD hc1 hc2
      by_cases hV : ValidS B (L.map Se.tell)
      · have HV : Hid (ValidS B (L.map Se.tell)) := hV
        have HE : Hid (Calls Try.prog 33 #[.agg #[.int .i64 (B : Int), .slice none 0 0, .slice oa L.length cpv]] wr fun e w' => ∃ g n cp, e = .returned (.tuple #[.slice (some ⟨g, 0, none⟩) n cp, .int .i64 0]) ∧ n = (encSt B (L.map Se.tell)).length ∧ wr.heap.size ≤ g ∧ Own w' 5 g (encSt B (L.map Se.tell)) ∧ wr.grownBy w' none) :=
          specEncState_ok B oa cpv L wr HSS.out.1 hV (fun x hx => (HSS.out.2.2 x hx).2)
        clear hV
        have hstep : Calls Try.prog 33 #[.agg #[.int .i64 (B : Int), .slice none 0 0, .slice oa L.length cpv]] wr fun e w' => True := HE.out.mono fun _ _ _ => trivial
        clear hstep
        rcases (show (len : Int) < (A : Int) + 32 ∨ ((A : Int) + 32 ≤ (len : Int) ∧ (50 : Int) < (L.length : Int)) by omega) with i1 | ⟨i1, i2⟩
        all_goals
          go_wp2_with fail
          refine HE.out.mono ?_
          rintro e w5 ⟨g5, n5, cp5, rfl, hn5, hg5, hO5, hG5⟩
          have HF : Hid (w.grownBy w5 none ∧ SesRow w5 (w.heap.size + 1 + 1) (.slice oa L.length cpv) L) := ⟨grownBy_trans HGR.out hG5, HSS.out.2.1.grown hG5 (by simp)⟩
          have hpv5 : w5.heap[w.heap.size]? = _ := (hG5.block _ hps (by simp)).trans HPV.out
          have hcv1 : ∀ k, (convert 31 9 (.slice (some ⟨g5, 0, none⟩) n5 cp5)).run Try.prog (w5.drewN k) = .ok (.string (strB (encSt B (L.map Se.tell)))) (w5.drewN k) := fun k => run_str_b (w5.drewN k) Try.underlying31 Try.underlying5 Try.underlying9 ((hO5.sl n5 hn5.symm).heap rfl) cp5
          have hcv2 : ∀ k, (convert 31 9 (.slice (some ⟨b, off, none⟩) len cap)).run Try.prog (w5.drewN k) = .ok (.string (strB zs)) (w5.drewN k) := fun k => run_str_b (w5.drewN k) Try.underlying31 Try.underlying5 Try.underlying9 ((HZ.out.2.2.grown0 HF.out.1).heap rfl) cap
          have hcv3 : (convert 31 9 (.slice (some ⟨g5, 0, none⟩) n5 cp5)).run Try.prog w5 = .ok (.string (strB (encSt B (L.map Se.tell)))) w5 := run_str_b w5 Try.underlying31 Try.underlying5 Try.underlying9 (hO5.sl n5 hn5.symm) cp5
          have hcv4 : (convert 31 9 (.slice (some ⟨b, off, none⟩) len cap)).run Try.prog w5 = .ok (.string (strB zs)) w5 := run_str_b w5 Try.underlying31 Try.underlying5 Try.underlying9 (HZ.out.2.2.grown0 HF.out.1) cap
          have hE := strB_eq (encSt B (L.map Se.tell)) zs hO5.1 HZ.out.2.1
          have z0 : w5.cell? ⟨w.heap.size, 0, none⟩ = some (.int .i64 0) := by simp [World.cell?, hpv5]
          have z1 : w5.cell? ⟨w.heap.size, 1, none⟩ = some (.slice none 0 0) := by simp [World.cell?, hpv5]
          have z2 : w5.cell? ⟨w.heap.size, 2, none⟩ = some (.slice none 0 0) := by simp [World.cell?, hpv5]
          have x0 : w5.frozen? ⟨w.heap.size, 0, none⟩ = false := by simp [World.frozen?, hpv5]
          have x1 : w5.frozen? ⟨w.heap.size, 1, none⟩ = false := by simp [World.frozen?, hpv5]
          have x2 : w5.frozen? ⟨w.heap.size, 2, none⟩ = false := by simp [World.frozen?, hpv5]
          have s0 : w5.cell? ⟨w.heap.size + 1, 0, none⟩ = some (.int .i64 (B : Int)) := ((bcell hG5).1 _ _ (cell_block_lt q0)).trans q0
          have s1 : w5.cell? ⟨w.heap.size + 1, 1, none⟩ = some (.slice none 0 0) := ((bcell hG5).1 _ _ (cell_block_lt q1)).trans q1
          have s2 : w5.cell? ⟨w.heap.size + 1, 2, none⟩ = some (.slice oa L.length cpv) := ((bcell hG5).1 _ _ (cell_block_lt q2)).trans q2
          clear hpv5 hO5 hG5 hn5 q0 q1 q2 q3
          by_cases hEq : encSt B (L.map Se.tell) = zs
          · have HQ : Hid (encSt B (L.map Se.tell) = zs) := hEq
            rw [decide_eq_true hEq] at hE
            clear hEq
            generalize strB (encSt B (L.map Se.tell)) = sa at *
            generalize strB zs = sb at *
            go_wp2
            refine bodyPost_ret (v := .tuple #[.agg #[.int .i64 (B : Int), .slice none 0 0, .slice oa L.length cpv], .int .i64 0]) (by simp [results, Try.results38, go_sem, z0, z1, z2]) rfl ?_
            refine ⟨grownBy_setNew (grownBy_setNew (grownBy_setNew HF.out.1 (by simp)) (by simp)) (by simp), .inl ⟨B, L, _, rfl, HV.out, HQ.out, ?_⟩⟩
            refine SesRow.lower (base := w.heap.size + 1 + 1) ?_ (by omega)
            exact ((HF.out.2.grown (grownBy_setCell (grownBy_refl _ _)) (fun k e => by simp only [Option.some.injEq] at e; omega)).grown (grownBy_setCell (grownBy_refl _ _)) (fun k e => by simp only [Option.some.injEq] at e; omega)).grown (grownBy_setCell (grownBy_refl _ _)) (fun k e => by simp only [Option.some.injEq] at e; omega)
          · have HNO : Hid (∀ b' l', ValidS b' l' → encSt b' l' ≠ zs) := fun b' l' hV' he => by
              obtain ⟨rfl, rfl⟩ := HALL.out b' l' hV' he
              exact hEq he
            rw [decide_eq_false hEq] at hE
            clear hEq
            generalize strB (encSt B (L.map Se.tell)) = sa at *
            generalize strB zs = sb at *
            go_wp2
            refine bodyPost_ret (v := .tuple #[.agg #[.int .i64 0, .slice none 0 0, .slice none 0 0], .int .i64 5]) (by simp [results, Try.results38, go_sem, z0, z1, z2]) rfl ⟨?_, .inr ⟨HNO.out, rfl⟩⟩
            exact grownBy_setNew (grownBy_setNew (grownBy_setNew HF.out.1 (by simp)) (by simp)) (by simp)
      · have HNO : Hid (∀ b' l', ValidS b' l' → encSt b' l' ≠ zs) := fun b' l' hV' he => by
          obtain ⟨rfl, rfl⟩ := HALL.out b' l' hV' he
          exact hV hV'
        have HE : Hid (Calls Try.prog 33 #[.agg #[.int .i64 (B : Int), .slice none 0 0, .slice oa L.length cpv]] wr fun e w' => e = .returned (.tuple #[.slice none 0 0, .int .i64 5]) ∧ wr.grownBy w' none) :=
          specEncState_no B oa cpv L wr HSS.out.1 (by omega) (fun x hx => (HSS.out.2.2 x hx).1) hB hV
        clear hV
        rcases (show (len : Int) < (A : Int) + 32 ∨ ((A : Int) + 32 ≤ (len : Int) ∧ (50 : Int) < (L.length : Int)) by omega) with i1 | ⟨i1, i2⟩
        all_goals
          go_wp2_with fail
          refine HE.out.mono ?_
          rintro e w5 ⟨rfl, hG5⟩
          have HF : Hid (w.grownBy w5 none) := grownBy_trans HGR.out hG5
          have hpv5 : w5.heap[w.heap.size]? = _ := (hG5.block _ hps (by simp)).trans HPV.out
          have z0 : w5.cell? ⟨w.heap.size, 0, none⟩ = some (.int .i64 0) := by simp [World.cell?, hpv5]
          have z1 : w5.cell? ⟨w.heap.size, 1, none⟩ = some (.slice none 0 0) := by simp [World.cell?, hpv5]
          have z2 : w5.cell? ⟨w.heap.size, 2, none⟩ = some (.slice none 0 0) := by simp [World.cell?, hpv5]
          have x0 : w5.frozen? ⟨w.heap.size, 0, none⟩ = false := by simp [World.frozen?, hpv5]
          have x1 : w5.frozen? ⟨w.heap.size, 1, none⟩ = false := by simp [World.frozen?, hpv5]
          have x2 : w5.frozen? ⟨w.heap.size, 2, none⟩ = false := by simp [World.frozen?, hpv5]
          clear hpv5 hG5 q0 q1 q2 q3
          go_wp2
          refine bodyPost_ret (v := .tuple #[.agg #[.int .i64 0, .slice none 0 0, .slice none 0 0], .int .i64 5]) (by simp [results, Try.results38, go_sem, z0, z1, z2]) rfl ⟨?_, .inr ⟨HNO.out, rfl⟩⟩
          exact grownBy_setNew (grownBy_setNew (grownBy_setNew HF.out (by simp)) (by simp)) (by simp)
end Go.Proofs.Ytionggfecikedaa
