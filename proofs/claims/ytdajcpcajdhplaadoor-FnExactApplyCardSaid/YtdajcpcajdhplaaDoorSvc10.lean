/-
  CodeOf, StrB, Again
-/
import Derived.Test.YtdajcpcajdhplaaDoorSvc9
import Derived.Test.YtdajcpcajdhplaaDoorSvc1
import Derived.Laws.BytesString
import Derived.Laws.Cells
import Derived.Test.YtdajcpcajdhplaaDoorSvc8
import Derived.BigQuiet
/-
  codeOf at nil and at the package's own errors: its contracts.
-/
namespace Go.Proofs.YtdajcpcajdhplaaDoor
open Go.RowKit

/-- the package's errors and the library's type lie where the program's text lays them -/
structure ErrsAt (w : World) (ad : Nat → Addr) : Prop where
  cell : ∀ k, k < 12 → w.cell? ⟨k, 0, none⟩ = some (.iface 150 (.pointer (some (ad k))))
  blk : ∀ k, k < 12 → ∃ ca ta, w.heap[(ad k).block]? = some (.cells ca ta (0, 0))
  far : ∀ j k, j < 12 → k < 12 → j ≠ k → ad j ≠ ad k
  typ : w.cell? ⟨12, 0, none⟩ = some (.iface 134 (.agg #[.pointer (some ⟨13, 69, none⟩)]))
theorem ErrsAt.grown {w w' : World} {ad : Nat → Addr} (h : ErrsAt w ad) (hg : w.grownBy w' none) : ErrsAt w' ad := by
  obtain ⟨hc, -⟩ := bcell hg; refine ⟨fun k hk => (hc _ _ (cell_block_lt (h.cell k hk))).trans (h.cell k hk), fun k hk => ?_, h.far, (hc _ _ (cell_block_lt h.typ)).trans h.typ⟩; obtain ⟨ca, ta, hb⟩ := h.blk k hk; exact ⟨ca, ta, (hg.block _ (Array.getElem?_eq_some_iff.1 hb).1 (by simp)).trans hb⟩
theorem ErrsAt.other {w : World} {ad : Nat → Addr} (h : ErrsAt w ad) (j k : Nat) (hj : j < 12) (hk : k < 12) (hne : j ≠ k) :
    Calls Tryd.prog 64 #[.iface 150 (.pointer (some (ad j))), .iface 150 (.pointer (some (ad k)))] w fun e w' => e = .returned (.bool false) ∧ w' = w := by
  obtain ⟨ca, ta, ha⟩ := h.blk j hj; obtain ⟨cb, tb, hb⟩ := h.blk k hk; exact is_other (ad j) (ad k) ca cb ta tb w (h.far j k hj hk hne) ha hb
set_option maxRecDepth 100000 in
set_option maxHeartbeats 1000000 in
theorem codeOf_nil (w : World) :
    Calls Tryd.prog 36 #[.nilIface] w fun e w' => e = .returned (.int .i64 0) ∧ w.grownBy w' none := by
  go_enter Tryd.func36, Tryd.ntmps36
  go_wp2_with fail; refine (as_nil _ _).mono ?_; rintro e w1 ⟨rfl, hw1⟩; subst hw1; go_wp2; go_ret; refine ⟨rfl, ?_⟩
  repeat (first | exact grownBy_refl _ _ | apply grownBy_alloc)
set_option maxRecDepth 100000 in
set_option maxHeartbeats 2000000 in
theorem codeOf_err0 (ad : Nat → Addr) (w : World) (h : ErrsAt w ad) :
    Calls Tryd.prog 36 #[.iface 150 (.pointer (some (ad 0)))] w fun e w' => e = .returned (.int .i64 5) ∧ w.grownBy w' none := by
  have HE : Hid (ErrsAt w ad) := h; clear h
  go_enter Tryd.func36, Tryd.ntmps36
  go_wp2_with fail; refine (as_miss (ad 0) _ _ (HE.out.grown (World.grownBy_alloc _ _ _)).typ).mono ?_; rintro e w1 ⟨rfl, hG1⟩; have HE1 : Hid (ErrsAt w1 ad ∧ w.grownBy w1 none) := ⟨(HE.out.grown (World.grownBy_alloc _ _ _)).grown hG1, grownBy_trans (World.grownBy_alloc _ _ _) hG1⟩; have c0 := HE1.out.1.cell 0 (by decide); have c2 := HE1.out.1.cell 2 (by decide); have c3 := HE1.out.1.cell 3 (by decide); have c4 := HE1.out.1.cell 4 (by decide); clear hG1; go_wp2_with fail; refine (HE1.out.1.other 0 2 (by decide) (by decide) (by decide)).mono ?_; rintro e w' ⟨rfl, hw'⟩; subst hw'; go_wp2_with fail; refine (HE1.out.1.other 0 3 (by decide) (by decide) (by decide)).mono ?_; rintro e w' ⟨rfl, hw'⟩; subst hw'; go_wp2_with fail; refine (HE1.out.1.other 0 4 (by decide) (by decide) (by decide)).mono ?_; rintro e w' ⟨rfl, hw'⟩; subst hw'; go_wp2_with fail; refine (is_same (ad 0) _).mono ?_; rintro e w' ⟨rfl, hw'⟩; subst hw'; go_wp2; go_ret; exact ⟨rfl, HE1.out.2⟩
set_option maxRecDepth 100000 in
set_option maxHeartbeats 2000000 in
theorem codeOf_err1 (ad : Nat → Addr) (w : World) (h : ErrsAt w ad) :
    Calls Tryd.prog 36 #[.iface 150 (.pointer (some (ad 1)))] w fun e w' => e = .returned (.int .i64 6) ∧ w.grownBy w' none := by
  have HE : Hid (ErrsAt w ad) := h; clear h
  go_enter Tryd.func36, Tryd.ntmps36
  go_wp2_with fail; refine (as_miss (ad 1) _ _ (HE.out.grown (World.grownBy_alloc _ _ _)).typ).mono ?_; rintro e w1 ⟨rfl, hG1⟩; have HE1 : Hid (ErrsAt w1 ad ∧ w.grownBy w1 none) := ⟨(HE.out.grown (World.grownBy_alloc _ _ _)).grown hG1, grownBy_trans (World.grownBy_alloc _ _ _) hG1⟩; have c0 := HE1.out.1.cell 0 (by decide); have c1 := HE1.out.1.cell 1 (by decide); have c2 := HE1.out.1.cell 2 (by decide); have c3 := HE1.out.1.cell 3 (by decide); have c4 := HE1.out.1.cell 4 (by decide); clear hG1; go_wp2_with fail; refine (HE1.out.1.other 1 2 (by decide) (by decide) (by decide)).mono ?_; rintro e w' ⟨rfl, hw'⟩; subst hw'; go_wp2_with fail; refine (HE1.out.1.other 1 3 (by decide) (by decide) (by decide)).mono ?_; rintro e w' ⟨rfl, hw'⟩; subst hw'; go_wp2_with fail; refine (HE1.out.1.other 1 4 (by decide) (by decide) (by decide)).mono ?_; rintro e w' ⟨rfl, hw'⟩; subst hw'; go_wp2_with fail; refine (HE1.out.1.other 1 0 (by decide) (by decide) (by decide)).mono ?_; rintro e w' ⟨rfl, hw'⟩; subst hw'; go_wp2_with fail; refine (is_same (ad 1) _).mono ?_; rintro e w' ⟨rfl, hw'⟩; subst hw'; go_wp2; go_ret; exact ⟨rfl, HE1.out.2⟩
set_option maxRecDepth 100000 in
set_option maxHeartbeats 2000000 in
theorem codeOf_err4 (ad : Nat → Addr) (w : World) (h : ErrsAt w ad) :
    Calls Tryd.prog 36 #[.iface 150 (.pointer (some (ad 4)))] w fun e w' => e = .returned (.int .i64 4) ∧ w.grownBy w' none := by
  have HE : Hid (ErrsAt w ad) := h; clear h
  go_enter Tryd.func36, Tryd.ntmps36
  go_wp2_with fail; refine (as_miss (ad 4) _ _ (HE.out.grown (World.grownBy_alloc _ _ _)).typ).mono ?_; rintro e w1 ⟨rfl, hG1⟩; have HE1 : Hid (ErrsAt w1 ad ∧ w.grownBy w1 none) := ⟨(HE.out.grown (World.grownBy_alloc _ _ _)).grown hG1, grownBy_trans (World.grownBy_alloc _ _ _) hG1⟩; have c2 := HE1.out.1.cell 2 (by decide); have c3 := HE1.out.1.cell 3 (by decide); have c4 := HE1.out.1.cell 4 (by decide); clear hG1; go_wp2_with fail; refine (HE1.out.1.other 4 2 (by decide) (by decide) (by decide)).mono ?_; rintro e w' ⟨rfl, hw'⟩; subst hw'; go_wp2_with fail; refine (HE1.out.1.other 4 3 (by decide) (by decide) (by decide)).mono ?_; rintro e w' ⟨rfl, hw'⟩; subst hw'; go_wp2_with fail; refine (is_same (ad 4) _).mono ?_; rintro e w' ⟨rfl, hw'⟩; subst hw'; go_wp2; go_ret; exact ⟨rfl, HE1.out.2⟩
/-- bytes as a string -/
def strB (zs : List Nat) : ByteArray := ⟨(zs.map UInt8.ofNat).toArray⟩
theorem strB_toList (zs : List Nat) : (strB zs).toList = zs.map UInt8.ofNat := by simp [strB]
theorem strB_size (zs : List Nat) : (strB zs).size = zs.length := by simp [strB, ByteArray.size]
theorem foldl_push (l : List Nat) : ∀ s : ByteArray, (l.map (fun n : Nat => (n : Int))).foldl (fun r n => r.push (UInt8.ofNat n.toNat)) s = ⟨s.data ++ (l.map UInt8.ofNat).toArray⟩ := by
  induction l with
  | nil => intro s; simp
  | cons x l ih =>
    intro s; simp only [List.map_cons, List.foldl_cons]; rw [ih]
    congr 1
    apply Array.ext'
    simp [ByteArray.push]
theorem run_str_b {P : Program} (w : World) {src dst e : TypeId} (hs : P.underlying src = some (.slice e)) (he : P.underlying e = some (.int .u8)) (hd : P.underlying dst = some .string)
    {oa : Option Addr} {n : Nat} {zs : List Nat} (h : SlB w oa n zs) (c : Nat) : (convert src dst (.slice oa n c)).run P w = .ok (.string (strB zs)) w := by
  rw [run_convert_bytes_string w src dst e oa n c hs he hd]
  by_cases hn : n = 0
  · subst hn; obtain rfl : zs = [] := List.eq_nil_of_length_eq_zero h.1
    cases oa with
    | none => rfl
    | some a =>
      rw [run_bytesToString w a 0 c [] (by rfl)]
      rfl
  · obtain ⟨ad, rfl, hc⟩ := h.src (by omega)
    have hl : (loadCells ad n).run P w = .ok ((zs.map (fun n : Nat => (n : Int))).map (Value.int .u8)).toArray w := by
      have h1 := run_loadCells_list (P := P) (w := w) ad (zs.map bv) hc
      have h2 : (zs.map bv).length = n := by simpa using h.1
      rw [h2] at h1; rw [h1]
      simp [bv, Function.comp_def]
    rw [run_bytesToString w ad n c _ hl, foldl_push]
    simp [strB]
/-- two strings of bytes are one where the bytes are -/
theorem strB_eq (xs ys : List Nat) (hx : ∀ z ∈ xs, z < 256) (hy : ∀ z ∈ ys, z < 256) : ((strB xs).toList == (strB ys).toList) = decide (xs = ys) := by
  have hinj : ∀ (a b : List Nat), (∀ z ∈ a, z < 256) → (∀ z ∈ b, z < 256) → a.map UInt8.ofNat = b.map UInt8.ofNat → a = b := by
    intro a
    induction a with
    | nil => intro b _ _ h; cases b with
      | nil => rfl
      | cons => simp at h
    | cons x a ih =>
      intro b ha hb h
      cases b with
      | nil => simp at h
      | cons y b =>
        simp only [List.map_cons, List.cons.injEq] at h
        have e1 : x = y := by
          have := congrArg UInt8.toNat h.1; have h3 := ha x (by simp); have h4 := hb y (by simp)
          simpa [Nat.mod_eq_of_lt h3, Nat.mod_eq_of_lt h4] using this
        rw [e1, ih b (fun z hz => ha z (by simp [hz])) (fun z hz => hb z (by simp [hz])) h.2]
  rw [strB_toList, strB_toList]
  by_cases he : xs = ys
  · subst he; simp
  · rw [decide_eq_false he]
    simpa using fun h => he (hinj xs ys hx hy h)
set_option maxHeartbeats 400000 in
theorem bytesEqual_any (oa ob : Option Addr) (la lb ca cb : Nat) (xs ys : List Nat) (w : World) (ha : SlB w oa la xs) (hb : SlB w ob lb ys) :
    Calls Tryd.prog 76 #[.slice oa la ca, .slice ob lb cb] w fun e w' => e = .returned (.bool (decide (xs = ys))) ∧ w' = w := by
  have hcv1 : (convert 22 9 (.slice oa la ca)).run Tryd.prog w = .ok (.string (strB xs)) w := run_str_b w Tryd.underlying22 Tryd.underlying5 Tryd.underlying9 ha ca; have hcv2 : (convert 22 9 (.slice ob lb cb)).run Tryd.prog w = .ok (.string (strB ys)) w := run_str_b w Tryd.underlying22 Tryd.underlying5 Tryd.underlying9 hb cb; have HE : Hid (((strB xs).toList == (strB ys).toList) = decide (xs = ys)) := strB_eq xs ys ha.2.1 hb.2.1; clear ha hb
  go_enter Tryd.func76, Tryd.ntmps76
  go_wp2; go_ret; exact ⟨ret_bool HE.out, rfl⟩
/-- the very item -/
def sameItem (q : Int) (ys : List Nat) (q' : Int) (xs : List Nat) : Prop := q' = q ∧ xs = ys
set_option maxRecDepth 4000 in
set_option maxHeartbeats 1000000 in
theorem placeAgain_any (c q i : Int) (oa : Option Addr) (la ca : Nat) (ys : List Nat) (c' q' : Int) (ob : Option Addr) (lb cb : Nat) (xs : List Nat) (ad : Nat → Addr) (w : World) (hE : ErrsAt w ad) (ha : SlB w oa la ys) (hb : SlB w ob lb xs) :
    Calls Tryd.prog 61 #[.agg #[.int .i64 c, .int .i64 q, .int .i64 i, .slice oa la ca], .agg #[.int .i64 c', .int .i64 q', .slice ob lb cb]] w fun e w' => ((sameItem q ys q' xs ∧ e = .returned (.tuple #[.int .i64 i, .nilIface])) ∨ (¬ sameItem q ys q' xs ∧ e = .returned (.tuple #[.int .i64 0, .iface 150 (.pointer (some (ad 4)))]))) ∧ w.grownBy w' none := by
  have G : ∀ A B, w.grownBy ((w.alloc A).alloc B) none := fun A B => grownBy_alloc (World.grownBy_alloc _ _ _) _
  have HB : Hid (∀ X : World, w.grownBy X none → Calls Tryd.prog 76 #[.slice ob lb cb, .slice oa la ca] X fun e w' => e = .returned (.bool (decide (xs = ys))) ∧ w' = X) := fun X hX => bytesEqual_any ob oa lb la cb ca xs ys X (hb.grown0 hX) (ha.grown0 hX)
  have HE : Hid (ErrsAt w ad) := hE; clear hE ha hb G; have c4 : ((w.alloc (.cells #[.int .i64 c, .int .i64 q, .int .i64 i, .slice oa la ca] 74)).alloc (.cells #[.int .i64 c', .int .i64 q', .slice ob lb cb] 32)).cell? ⟨4, 0, none⟩ = some (.iface 150 (.pointer (some (ad 4)))) := (HE.out.grown (grownBy_alloc (World.grownBy_alloc _ _ _) _)).cell 4 (by decide)
  by_cases hq : q' = q
  · subst hq
    have e1 : (q' != q') = false := by simp
    by_cases hx : xs = ys
    · rw [decide_eq_true hx] at HB; have HS : Hid (sameItem q' ys q' xs) := ⟨rfl, hx⟩; clear hx
      go_enter Tryd.func61, Tryd.ntmps61
      go_wp2_with fail; refine (HB.out _ (by repeat (first | exact grownBy_refl _ _ | apply grownBy_alloc))).mono ?_; rintro e w1 ⟨rfl, hw1⟩; subst hw1; go_wp2
      go_ret2
      refine ⟨.inl ⟨HS.out, rfl⟩, ?_⟩
      repeat (first | exact grownBy_refl _ _ | apply grownBy_alloc)
    · rw [decide_eq_false hx] at HB
      have HS : Hid (¬ sameItem q' ys q' xs) := fun h => hx h.2
      clear hx
      go_enter Tryd.func61, Tryd.ntmps61
      go_wp2_with fail; refine (HB.out _ (by repeat (first | exact grownBy_refl _ _ | apply grownBy_alloc))).mono ?_; rintro e w1 ⟨rfl, hw1⟩; subst hw1; go_wp2; go_quiet (fail); go_wp2
      go_ret2
      refine ⟨.inr ⟨HS.out, rfl⟩, ?_⟩; refine grownBy_same (w := (w.alloc (.cells #[.int .i64 c, .int .i64 q', .int .i64 i, .slice oa la ca] 74)).alloc (.cells #[.int .i64 c', .int .i64 q', .slice ob lb cb] 32)) ?_ ⟨rfl, rfl, rfl, rfl⟩
      repeat (first | exact grownBy_refl _ _ | apply grownBy_alloc)
  · have e1 : (q' != q) = true := by simpa using hq
    have HS : Hid (¬ sameItem q ys q' xs) := fun h => hq h.1
    clear hq
    go_enter Tryd.func61, Tryd.ntmps61
    go_wp2; go_quiet (fail); go_wp2
    go_ret2
    refine ⟨.inr ⟨HS.out, rfl⟩, ?_⟩; refine grownBy_same (w := (w.alloc (.cells #[.int .i64 c, .int .i64 q, .int .i64 i, .slice oa la ca] 74)).alloc (.cells #[.int .i64 c', .int .i64 q', .slice ob lb cb] 32)) ?_ ⟨rfl, rfl, rfl, rfl⟩
    repeat (first | exact grownBy_refl _ _ | apply grownBy_alloc)
end Go.Proofs.YtdajcpcajdhplaaDoor
