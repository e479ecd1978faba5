/- What a small graph weighs. A small graph is mild. How many rows a small graph's counts have. A small graph's counts fit. Rows of bytes that grow: what is said of them, and the smallest that make them grow. A row of bytes that grows: what the boxes beside it bear. -/
import Derived.Test.YthfilnflgahcjaaGreatDoorJoin28
import Derived.Test.YthfilnflgahcjaaGreatDoorJoin19
import Derived.Test.YthfilnflgahcjaaGreatDoorJoin24
import Derived.Test.YthfilnflgahcjaaGreatDoorJoin16
import Derived.Test.YthfilnflgahcjaaGreatDoorJoin27
import Derived.Lib.AppendStr
import Derived.Lib.BufferKept
namespace Go.Proofs.YthfilnflgahcjaaGreatDoor
open Go.RowKit Go.Shelf
set_option linter.unusedVariables false
set_option linter.unusedSimpArgs false
def propW (ps : List (ByteArray × Tree)) : Int := (ps.map fun q => 1 + (q.1.size : Int) + q.2.total).sum
def nodeW (x : NodeP) : Int := x.labels.length + keyBytes x.labels + propW x.props
def relW (x : RelP) : Int := 1 + x.type.size + propW x.props
theorem propW_cons (q : ByteArray × Tree) (r : List (ByteArray × Tree)) : propW (q :: r) = 1 + (q.1.size : Int) + q.2.total + propW r := by simp [propW]
theorem propW_len : ∀ ps : List (ByteArray × Tree), 2 * (ps.length : Int) ≤ propW ps
  | [] => by simp [propW]
  | q :: r => by
    have := propW_len r
    have := total_pos q.2
    rw [propW_cons]; simp only [List.length_cons]; omega
theorem propW_mem : ∀ {ps : List (ByteArray × Tree)} {q : ByteArray × Tree}, q ∈ ps → 1 + (q.1.size : Int) + q.2.total ≤ propW ps
  | k :: r, q, h => by
    have h1 := propW_len r
    have h2 := total_pos k.2
    rw [propW_cons]
    rcases List.mem_cons.1 h with rfl | h
    · omega
    · have := propW_mem h; omega
theorem propZ_eq : ∀ (ps : List (ByteArray × Tree)) (n : Int), 0 ≤ n → propZ n ps ≤ 3000 → propZ n ps = n + propW ps
  | [], n, _, _ => by simp [propZ, propW]
  | q :: r, n, hn0, h => by
    simp only [propZ] at h ⊢
    split at h
    · rename_i hn
      have h1 := propZ_ge r (n + 1 + q.1.size + vszN q.2 3000)
      have h2 := vszN_pos q.2 3000
      rw [if_pos hn, propZ_eq r _ (by omega) h, propW_cons, vszN_eq q.2 3000 (by omega)]
      omega
    · omega
section
variable {α : Type} {f : Int → α → Int} {c : α → Int}
theorem gZ_ge : ∀ (xs : List α) (n : Int), (∀ m x, x ∈ xs → 0 ≤ m → m ≤ f m x) → 0 ≤ n → n ≤ gZ f n xs
  | [], n, _, _ => by simp [gZ]
  | x :: r, n, hf, h0 => by
    simp only [gZ]
    split
    · have h1 := hf n x (by simp) h0
      have := gZ_ge r (f n x) (fun m y hy => hf m y (by simp [hy])) (by omega)
      omega
    · omega
theorem gZ_eq : ∀ (xs : List α) (n : Int), (∀ m x, x ∈ xs → 0 ≤ m → m ≤ f m x) → (∀ m x, x ∈ xs → 0 ≤ m → f m x ≤ 3000 → f m x = m + c x) → 0 ≤ n → gZ f n xs ≤ 3000 → gZ f n xs = n + (xs.map c).sum
  | [], n, _, _, _, _ => by simp [gZ]
  | x :: r, n, hf, hc, h0, h => by
    simp only [gZ] at h ⊢
    split at h
    · rename_i hn
      have h1 := hf n x (by simp) h0
      have h2 := gZ_ge r (f n x) (fun m y hy => hf m y (by simp [hy])) (by omega)
      rw [if_pos hn, gZ_eq r _ (fun m y hy => hf m y (by simp [hy])) (fun m y hy => hc m y (by simp [hy])) (by omega) h, hc n x (by simp) h0 (by omega)]
      simp only [List.map_cons, List.sum_cons]; omega
    · omega
end
theorem fN_ge (m : Int) (x : NodeP) : m ≤ fN m x := by
  have a := keysZ_ge 3000 x.labels m
  have c := propZ_ge x.props 0
  unfold fN; omega
theorem fR_ge (m : Int) (x : RelP) : m ≤ fR m x := by
  have c := propZ_ge x.props 0
  unfold fR; omega
theorem fN_eq (m : Int) (x : NodeP) (h0 : 0 ≤ m) (h : fN m x ≤ 3000) : fN m x = m + nodeW x := by
  have a := keysZ_ge 3000 x.labels m
  have c := propZ_ge x.props 0
  unfold fN at h ⊢
  unfold nodeW
  rw [keysZ_eq 3000 x.labels m (by omega), propZ_eq x.props 0 (by omega) (by omega)]
  omega
theorem fR_eq (m : Int) (x : RelP) (h0 : 0 ≤ m) (h : fR m x ≤ 3000) : fR m x = m + relW x := by
  have c := propZ_ge x.props 0
  unfold fR at h ⊢
  unfold relW
  rw [propZ_eq x.props 0 (by omega) (by omega)]
  omega
/-- What a small graph weighs. -/
theorem small_weighs {g : GraphP} (h : smallG g = true) : g.nodes.length + g.rels.length ≤ 60 ∧ (g.nodes.map nodeW).sum + (g.rels.map relW).sum ≤ 3000 := by
  unfold smallG at h
  split at h
  · cases h
  · rename_i hn
    have h1 := of_decide_eq_true h
    have h2 := gZ_ge (f := fN) g.nodes 0 (fun m x _ _ => fN_ge m x) (by omega)
    have h3 := gZ_ge (f := fR) g.rels (gZ fN 0 g.nodes) (fun m x _ _ => fR_ge m x) h2
    have h4 : gZ fN 0 g.nodes ≤ 3000 := by omega
    rw [gZ_eq (c := relW) g.rels _ (fun m x _ _ => fR_ge m x) (fun m x _ => fR_eq m x) h2 h1, gZ_eq (c := nodeW) g.nodes _ (fun m x _ _ => fN_ge m x) (fun m x _ => fN_eq m x) (by omega) h4] at h1
    exact ⟨by omega, by omega⟩
theorem nodeW_pos (x : NodeP) : 0 ≤ nodeW x := by
  have := propW_len x.props
  have := keyBytes_nonneg x.labels
  unfold nodeW; omega
theorem relW_pos (x : RelP) : 1 ≤ relW x := by
  have := propW_len x.props
  unfold relW; omega
theorem sum_mem {α : Type} {c : α → Int} (hc : ∀ x, 0 ≤ c x) : ∀ {xs : List α} {x : α}, x ∈ xs → c x ≤ (xs.map c).sum
  | k :: r, x, h => by
    have h1 : 0 ≤ (r.map c).sum := by
      clear h
      induction r with
      | nil => simp
      | cons a l ih => have := hc a; simp only [List.map_cons, List.sum_cons]; omega
    have h2 := hc k
    simp only [List.map_cons, List.sum_cons]
    rcases List.mem_cons.1 h with rfl | h
    · omega
    · have := sum_mem hc h; omega
theorem sum_pos {α : Type} {c : α → Int} (hc : ∀ x, 0 ≤ c x) (xs : List α) : 0 ≤ (xs.map c).sum := by
  induction xs with
  | nil => simp
  | cons a l ih => have := hc a; simp only [List.map_cons, List.sum_cons]; omega
theorem small_node {g : GraphP} (h : smallG g = true) {x : NodeP} (hx : x ∈ g.nodes) : nodeW x ≤ 3000 := by
  have h1 := small_weighs h
  have h2 := sum_mem nodeW_pos hx
  have h3 := sum_pos (fun x => Int.le_trans (by omega) (relW_pos x)) g.rels
  omega
theorem small_rel {g : GraphP} (h : smallG g = true) {x : RelP} (hx : x ∈ g.rels) : relW x ≤ 3000 := by
  have h1 := small_weighs h
  have h2 := sum_mem (fun x => Int.le_trans (by omega) (relW_pos x)) hx
  have h3 := sum_pos nodeW_pos g.nodes
  omega
end Go.Proofs.YthfilnflgahcjaaGreatDoor

namespace Go.Proofs.YthfilnflgahcjaaGreatDoor
open Go.RowKit Go.Shelf
set_option linter.unusedVariables false
set_option linter.unusedSimpArgs false
mutual
theorem height_le : ∀ T : Tree, (T.height : Int) ≤ T.total
  | .mk k b n s ks ts => by
    have h := heightL_le ts
    have hk := keyBytes_nonneg ks
    simp only [Tree.height, Tree.total]
    omega
theorem heightL_le : ∀ l : List Tree, (Tree.heightL l : Int) ≤ Tree.totalL l
  | [] => by simp [Tree.heightL, Tree.totalL]
  | t :: ts => by
    have h1 := height_le t
    have h2 := heightL_le ts
    have h3 := total_pos t
    have h4 := totalL_nonneg ts
    simp only [Tree.heightL, Tree.totalL]
    omega
end
theorem small_modest {T : Tree} (h : T.total ≤ 3000) : T.height < 100000000 ∧ bytesOf (T.pre 1) < 4611686018427387904 := by
  have h1 := height_le T
  have h2 := (size_le T).2.1.2
  rw [pre_bytes]
  omega
theorem key_mem {ks : List ByteArray} {x : ByteArray} (h : x ∈ ks) : (x.size : Int) ≤ keyBytes ks := by
  induction ks with
  | nil => cases h
  | cons k r ih =>
    have := keyBytes_nonneg r
    rw [keyBytes_cons]
    rcases List.mem_cons.1 h with rfl | h
    · omega
    · have := ih h; omega
/-- What a small graph's parts are at most. -/
theorem small_node_parts {g : GraphP} (h : smallG g = true) {x : NodeP} (hx : x ∈ g.nodes) : x.labels.length ≤ 3000 ∧ (∀ l ∈ x.labels, l.size ≤ 3000) ∧ x.props.length ≤ 1500 ∧ ∀ q ∈ x.props, q.1.size ≤ 3000 ∧ q.2.total ≤ 3000 := by
  have h1 := small_node h hx
  unfold nodeW at h1
  have h2 := propW_len x.props
  have h3 := keyBytes_nonneg x.labels
  refine ⟨by omega, fun l hl => ?_, by omega, fun q hq => ?_⟩
  · have := key_mem hl; omega
  · have := propW_mem hq
    have := total_pos q.2
    omega
theorem small_rel_parts {g : GraphP} (h : smallG g = true) {x : RelP} (hx : x ∈ g.rels) : x.type.size ≤ 3000 ∧ x.props.length ≤ 1500 ∧ ∀ q ∈ x.props, q.1.size ≤ 3000 ∧ q.2.total ≤ 3000 := by
  have h1 := small_rel h hx
  unfold relW at h1
  have h2 := propW_len x.props
  refine ⟨by omega, by omega, fun q hq => ?_⟩
  have := propW_mem hq
  have := total_pos q.2
  omega
theorem small_mild {g : GraphP} (h : smallG g = true) : Mild g := by
  have h1 := (small_weighs h).1
  refine ⟨by omega, by omega, fun n hn => ?_, fun r hr => ?_⟩
  · obtain ⟨a, b, c, d⟩ := small_node_parts h hn
    exact ⟨fun x hx => by have := b x hx; omega, fun q hq => ⟨by have := (d q hq).1; omega, small_modest (d q hq).2⟩⟩
  · obtain ⟨a, c, d⟩ := small_rel_parts h hr
    exact ⟨by omega, fun q hq => ⟨by have := (d q hq).1; omega, small_modest (d q hq).2⟩⟩
end Go.Proofs.YthfilnflgahcjaaGreatDoor

namespace Go.Proofs.YthfilnflgahcjaaGreatDoor
open Go.RowKit Go.Shelf
set_option linter.unusedVariables false
set_option linter.unusedSimpArgs false
theorem sq_mono {a b : Int} (h0 : 0 ≤ a) (h : a ≤ b) : a * a ≤ b * b := Int.mul_le_mul h h h0 (Int.le_trans h0 h)
theorem lp_le {L P W : Int} (h1 : 0 ≤ L) (h2 : 0 ≤ P) (h : 2 * L + 2 * P ≤ W) : 16 * (L * P) ≤ W * W := by
  have a := sq_mono (a := 2 * L + 2 * P) (b := W) (by omega) h
  have b : 0 ≤ (L - P) * (L - P) := by
    rcases Int.le_total L P with g | g
    · have := Int.mul_nonneg (show 0 ≤ P - L by omega) (show 0 ≤ P - L by omega)
      have e : (L - P) * (L - P) = (P - L) * (P - L) := by rw [← Int.neg_sub P L, Int.neg_mul_neg]
      omega
    · exact Int.mul_nonneg (by omega) (by omega)
  have e1 : (2 * L + 2 * P) * (2 * L + 2 * P) = 4 * (L * L) + 8 * (L * P) + 4 * (P * P) := by
    rw [Int.add_mul, Int.mul_add, Int.mul_add, Int.mul_comm (2 * P) (2 * L)]
    have x1 : 2 * L * (2 * L) = 4 * (L * L) := by rw [Int.mul_assoc, Int.mul_left_comm L 2 L, ← Int.mul_assoc]; rfl
    have x2 : 2 * L * (2 * P) = 4 * (L * P) := by rw [Int.mul_assoc, Int.mul_left_comm L 2 P, ← Int.mul_assoc]; rfl
    have x3 : 2 * P * (2 * P) = 4 * (P * P) := by rw [Int.mul_assoc, Int.mul_left_comm P 2 P, ← Int.mul_assoc]; rfl
    omega
  have e2 : (L - P) * (L - P) = L * L - 2 * (L * P) + P * P := by
    rw [Int.sub_mul, Int.mul_sub, Int.mul_sub, Int.mul_comm P L]; omega
  omega
theorem sq_add {a b : Int} (h1 : 0 ≤ a) (h2 : 0 ≤ b) : a * a + b * b ≤ (a + b) * (a + b) := by
  have h := Int.mul_nonneg h1 h2
  rw [Int.add_mul, Int.mul_add, Int.mul_add, Int.mul_comm b a]; omega
theorem wlen_props (tx : Tree → ByteArray) (ls : List ByteArray) : ∀ ps : List (ByteArray × Tree), (wlen (ps.map (itemAt tx ls)) : Int) = ls.length * ps.length
  | [] => by simp [wlen]
  | q :: r => by
    have h := wlen_props tx ls r
    rw [List.map_cons, wlen, List.length_cons]
    have e : (itemAt tx ls q).1.length = ls.length := rfl
    have e2 : (ls.length : Int) * ((r.length + 1 : Nat) : Int) = (ls.length : Int) * (r.length : Int) + ls.length := by rw [Int.natCast_add, Int.mul_add]; simp
    omega
theorem wlen_le (tx : Tree → ByteArray) : ∀ (ns : List NodeP), (∀ n ∈ ns, (n.labels.length : Int) ≤ keyBytes n.labels + 1) → 0 ≤ (ns.map fun n => nodeW n + 1).sum ∧ 16 * (wlen (itemsOf tx ns) : Int) ≤ (ns.map fun n => nodeW n + 1).sum * (ns.map fun n => nodeW n + 1).sum
  | [], _ => by simp [itemsOf, wlen]
  | x :: r, h => by
    obtain ⟨h1, h2⟩ := wlen_le tx r fun n hn => h n (by simp [hn])
    have h3 := h x (by simp)
    have h4 := nodeW_pos x
    have h5 := propW_len x.props
    have h6 := lp_le (L := x.labels.length) (P := x.props.length) (W := nodeW x + 1) (by omega) (by omega) (by unfold nodeW; omega)
    have h7 := sq_add (a := nodeW x + 1) (b := (r.map fun n => nodeW n + 1).sum) (by omega) h1
    have e : itemsOf tx (x :: r) = x.props.map (itemAt tx x.labels) ++ itemsOf tx r := by simp [itemsOf]
    have e2 := wlen_props tx x.labels x.props
    rw [e, wlen_append, List.map_cons, List.sum_cons]
    omega
end Go.Proofs.YthfilnflgahcjaaGreatDoor

namespace Go.Proofs.YthfilnflgahcjaaGreatDoor
open Go.RowKit Go.Shelf
set_option linter.unusedVariables false
set_option linter.unusedSimpArgs false
theorem labs_sum : ∀ ns : List NodeP, ((labelsOf ns).length : Int) ≤ (ns.map nodeW).sum
  | [] => by simp [labelsOf]
  | x :: r => by
    have h := labs_sum r
    have h1 := propW_len x.props
    have h2 := keyBytes_nonneg x.labels
    have e : labelsOf (x :: r) = x.labels ++ labelsOf r := by simp [labelsOf]
    rw [e, List.map_cons, List.sum_cons, List.length_append]
    unfold nodeW at h ⊢
    omega
theorem items_sum (tx : Tree → ByteArray) : ∀ ns : List NodeP, ((itemsOf tx ns).length : Int) ≤ (ns.map nodeW).sum
  | [] => by simp [itemsOf]
  | x :: r => by
    have h := items_sum tx r
    have h1 := propW_len x.props
    have h2 := keyBytes_nonneg x.labels
    have e : itemsOf tx (x :: r) = x.props.map (itemAt tx x.labels) ++ itemsOf tx r := by simp [itemsOf]
    rw [e, List.map_cons, List.sum_cons, List.length_append, List.length_map]
    unfold nodeW at h ⊢
    omega
theorem ones_sum : ∀ ns : List NodeP, (ns.map fun n => nodeW n + 1).sum = (ns.map nodeW).sum + ns.length
  | [] => by simp
  | x :: r => by
    have h := ones_sum r
    rw [List.map_cons, List.sum_cons, List.map_cons, List.sum_cons, List.length_cons]
    omega
theorem small_fit (tx : Tree → ByteArray) {g : GraphP} (h : smallG g = true) (hlab : ∀ n ∈ g.nodes, (n.labels.length : Int) ≤ keyBytes n.labels + 1) (hfr : ∀ r ∈ g.rels, W64 r.fr ∧ W64 r.tt) (hnd : (g.nodes.map NodeP.id).Nodup) (hid : ∀ n ∈ g.nodes, W64 n.id) : CntFit tx g 900000 3000 := by
  obtain ⟨h1, h2⟩ := small_weighs h
  have h3 := sum_pos nodeW_pos g.nodes
  have h4 := sum_pos (fun x => Int.le_trans (by omega) (relW_pos x)) g.rels
  have hL := labs_sum g.nodes
  have hI := items_sum tx g.nodes
  have hC := cnt_len (jointsOf g.rels)
  have hJ := jointsOf_len g.rels
  have hkk : ∀ n ∈ g.nodes, n.labels.length ≤ 3000 := fun n hn => (small_node_parts h hn).1
  have hW : wlen (itemsOf tx g.nodes) ≤ 900000 := by
    obtain ⟨a, b⟩ := wlen_le tx g.nodes hlab
    have c := sq_mono (a := (g.nodes.map fun n => nodeW n + 1).sum) (b := 3060) a (by rw [ones_sum]; omega)
    omega
  have hE : (endsOf g.nodes (cnt (jointsOf g.rels))).length ≤ 900000 := by
    have a := endsOf_len g.nodes 3000 (labsAt_le hkk) (cnt (jointsOf g.rels))
    omega
  refine ⟨by omega, by omega, hfr, hnd, hid, by omega, hkk, by omega, by omega, by omega, by omega, ?_, ?_, ?_, ?_⟩
  · have := tally_len (labelsOf g.nodes); omega
  · have := tally_len (g.rels.map fun r => r.type); rw [List.length_map] at this; omega
  · exact Nat.le_trans (gather_len _) hE
  · unfold nodesK
    refine Nat.le_trans (gather_len _) ?_
    rw [List.length_map]
    refine Nat.le_trans (cnt_len _) ?_
    rw [(kAll_facts _).2.2.1]; exact hW
end Go.Proofs.YthfilnflgahcjaaGreatDoor

namespace Go.Proofs.YthfilnflgahcjaaGreatDoor
open Go.RowKit Go.Shelf Go.Lib
set_option linter.unusedVariables false
theorem Tryz.info5 : (Tryz.prog.info? 5).map (fun i => (i.zero, i.size, i.bytes)) = some (some (.int .u8 0), 1, 1) := by kernel_rfl
theorem kept_of_grown {base n : Nat} {v : Value} {xs : List Value} {w w' : World} (hown : w.ownsRow base 5 1 v n xs) (hg : w.grownBy w' v.ownBlock) : OthersKept 5 none w w' := fun k o hk _ hne => by
  have hk' : k < w.heap.size := (Array.getElem?_eq_some_iff.1 hk).1
  by_cases e : some k = v.ownBlock
  · obtain ⟨_, ⟨h1, _⟩ | ⟨g, cap, cur, h1, _, h2, _⟩⟩ := hown
    · rw [h1] at e; cases e
    · rw [h1] at e
      have : k = g := by simpa [Value.ownBlock] using e
      rw [this, h2] at hk
      exact absurd (Option.some.inj hk).symm (hne _ _)
  · exact (hg.block k hk' e).trans hk
theorem below_of_grown {base n : Nat} {v : Value} {xs : List Value} {w w' : World} (hown : w.ownsRow base 5 1 v n xs) (hB : base ≤ w.heap.size) (hg : w.grownBy w' v.ownBlock) : Below base w w' :=
  (Below.refl base w).grown hg hB fun q h => (hown.lt q h).1
/-- The row holds some bytes more; all else is as it was. -/
structure Told (base n : Nat) (xs : List Value) (v : Value) (w : World) (bs : List UInt8) (v' : Value) (w' : World) : Prop where
  own : w'.ownsRow base 5 1 v' (n + bs.length) (xs ++ byteCells bs)
  grown : w.grownBy w' v.ownBlock
  place : v'.ownBlock = v.ownBlock ∨ ∃ g, v'.ownBlock = some g ∧ w.heap.size ≤ g
theorem told_nil {base n : Nat} {v : Value} {xs : List Value} {w : World} (hown : w.ownsRow base 5 1 v n xs) : Told base n xs v w [] v w :=
  ⟨by simpa [byteCells] using hown, ⟨rfl, rfl, rfl, Nat.le_refl _, fun _ _ _ => rfl⟩, .inl rfl⟩
theorem Told.trans {base n : Nat} {xs : List Value} {w w1 w2 : World} {bs cs : List UInt8} {v v1 v2 : Value} (h : Told base n xs v w bs v1 w1) (h' : Told base (n + bs.length) (xs ++ byteCells bs) v1 w1 cs v2 w2) : Told base n xs v w (bs ++ cs) v2 w2 := by
  have hle := h.grown.size
  refine ⟨by have := h'.own; rw [List.append_assoc, Nat.add_assoc] at this; simpa [byteCells] using this, ⟨h'.grown.os.trans h.grown.os, h'.grown.tape.trans h.grown.tape, h'.grown.output.trans h.grown.output, Nat.le_trans hle h'.grown.size, fun k hk hne => ?_⟩, ?_⟩
  · refine (h'.grown.block k (Nat.lt_of_lt_of_le hk hle) fun e => ?_).trans (h.grown.block k hk hne)
    rcases h.place with g | ⟨g, e1, e2⟩
    · exact hne (e.trans g)
    · rw [e1] at e
      have : k = g := by simpa using e
      omega
  · rcases h'.place with g | ⟨g, e1, e2⟩
    · rw [g]; exact h.place
    · exact .inr ⟨g, e1, by omega⟩
theorem Told.below {base n : Nat} {xs : List Value} {w w1 : World} {bs : List UInt8} {v v1 : Value} (h : Told base n xs v w bs v1 w1) (hown : w.ownsRow base 5 1 v n xs) (hB : base ≤ w.heap.size) : Below base w w1 := below_of_grown hown hB h.grown
theorem Told.kept {base n : Nat} {xs : List Value} {w w1 : World} {bs : List UInt8} {v v1 : Value} (h : Told base n xs v w bs v1 w1) (hown : w.ownsRow base 5 1 v n xs) : OthersKept 5 none w w1 := kept_of_grown hown h.grown
/-- Blocks that were made ahead change nothing. -/
theorem own_below {base n : Nat} {xs : List Value} {v : Value} {w w1 : World} (hown : w.ownsRow base 5 1 v n xs) (hb : Below w.heap.size w w1) : w1.ownsRow base 5 1 v n xs := by
  obtain ⟨g1, ⟨g2, g3⟩ | ⟨g, cap, cur, g2, g3, g4, g5⟩⟩ := hown
  · exact ⟨g1, .inl ⟨g2, g3⟩⟩
  · exact ⟨g1, .inr ⟨g, cap, cur, g2, g3, (hb.block g (Array.getElem?_eq_some_iff.1 g4).1).trans g4, g5⟩⟩
theorem Told.from {base n : Nat} {xs : List Value} {w w1 w2 : World} {bs : List UInt8} {v v1 : Value} (hb : Below w.heap.size w w1) (h : Told base n xs v w1 bs v1 w2) : Told base n xs v w bs v1 w2 :=
  ⟨h.own, ⟨h.grown.os.trans hb.os, h.grown.tape.trans hb.tape, h.grown.output.trans hb.output, Nat.le_trans hb.size h.grown.size, fun k hk hne => (h.grown.block k (Nat.lt_of_lt_of_le hk hb.size) hne).trans (hb.block k hk)⟩,
    h.place.imp id fun ⟨g, e1, e2⟩ => ⟨g, e1, Nat.le_trans hb.size e2⟩⟩
theorem Told.upto {base n : Nat} {xs : List Value} {w w1 w2 : World} {bs : List UInt8} {v v1 : Value} (h : Told base n xs v w bs v1 w1) (hb : Below w1.heap.size w1 w2) : Told base n xs v w bs v1 w2 :=
  ⟨own_below h.own hb, ⟨hb.os.trans h.grown.os, hb.tape.trans h.grown.tape, hb.output.trans h.grown.output, Nat.le_trans h.grown.size hb.size, fun k hk hne => (hb.block k (Nat.lt_of_lt_of_le hk h.grown.size)).trans (h.grown.block k hk hne)⟩, h.place⟩
/-- Where a row lies to which a text was put. -/
theorem append_place {ty : TypeId} {base n : Nat} {v v' : Value} {xs : List Value} {w w' : World} {s : ByteArray} (hown : w.ownsRow base 5 1 v n xs) (h0 : 0 < s.size) (hn : n + s.size ≤ 100000000000000)
    (hrun : (Builtin.append_ #[116, 9] ty #[v, .string s]).run Tryz.prog w = .ok v' w') : v'.ownBlock = v.ownBlock ∨ ∃ g, v'.ownBlock = some g ∧ w.heap.size ≤ g := by
  obtain ⟨i0, hi, hz0, hz1, hz2⟩ := info_parts Tryz.info5
  have hxl : xs.length = n := by simpa using hown.1
  rcases hown.2 with ⟨rfl, rfl⟩ | ⟨g, cap, cur, rfl, hbg, hg, hnc, hcm, hcs, htake⟩
  · rw [run_append_nil_string (P := Tryz.prog) w 116 9 ty 5 i0 (.int .u8 0) Tryz.underlying116 Tryz.underlying9 hi hz0 s h0 (by omega) (by rw [hz2]; omega)] at hrun
    cases hrun
    exact .inr ⟨_, rfl, Nat.le_refl _⟩
  · by_cases hroom : n + s.size ≤ cap
    · rw [run_append_room_string (P := Tryz.prog) w 116 9 ty 5 i0 Tryz.underlying116 Tryz.underlying9 hi hz1 g n cap cur hg s hroom (by omega)] at hrun
      cases hrun
      exact .inl rfl
    · rw [run_append_grow_string (P := Tryz.prog) w 116 9 ty 5 i0 (.int .u8 0) Tryz.underlying116 Tryz.underlying9 hi hz0 ⟨g, 0, none⟩ n cap xs (by rw [hz1]; simpa using hxl) (hown.cells (g := g) rfl) s (by omega) (by omega) (by rw [hz2]; exact growslice_fits (by omega) (by omega))] at hrun
      cases hrun
      exact .inr ⟨_, rfl, Nat.le_refl _⟩
/-- 'append(row, text...)' in the walk. -/
theorem append_text {ops : Array Oper} {rest : List Oper} {o : Oper} {a : Act} {Q : Exit → Act → World → Prop} (w : World) (hgd : o.guard = none) (sl x : Operand)
    (ho : o.op = .call { callee := .builtin .append, args := #[sl, x], argTypes := #[116, 9] }) (base n : Nat) (v : Value) (xs : List Value) (hs : a.eval sl = v) (hown : w.ownsRow base 5 1 v n xs) (s : ByteArray) (hx : a.eval x = .string s)
    (h0 : 0 < s.size) (hn : n + s.size ≤ 100000000000000) (hB : base ≤ w.heap.size)
    (h : ∀ v' w', Told base n xs v w s.data.toList v' w' → wpList Tryz.prog ops Q rest (a.put o.dst v') w') : wpList Tryz.prog ops Q (o :: rest) a w := by
  refine wpList_plain hgd fun K hK => ?_
  obtain ⟨i0, hi, hz0, hz1, hz2⟩ := info_parts Tryz.info5
  obtain ⟨v', w', hr, h2, h3, h4⟩ := run_append_own_string (P := Tryz.prog) w base 116 9 o.type 5 i0 Tryz.underlying116 Tryz.underlying9 hi hz0 hz1 hz2 v n xs hown s (by unfold maxLen; omega) (by omega) hB
  unfold Oper.wp execOp
  simp only [ho, resolve, invoke, builtin, Sem.run_bind, Sem.run_pure, Result.andThen_ok, List.map_toArray, List.map_cons, List.map_nil, hs, hx, hr]
  exact hK _ _ (h v' w' ⟨h2, h3, append_place hown h0 hn hr⟩)
def boolBytes (b : Bool) : List UInt8 := if b then [116, 114, 117, 101] else [102, 97, 108, 115, 101]
set_option maxRecDepth 100000 in
theorem appendBool_in (b : Bool) (base n : Nat) (v : Value) (xs : List Value) (w : World) (hown : w.ownsRow base 5 1 v n xs) (hB : base ≤ w.heap.size) (hn : n ≤ 1000000000000) :
    Calls Tryz.prog 238 #[v, .bool b] w fun e w' => ∃ v', e = .returned v' ∧ Told base n xs v w (boolBytes b) v' w' := by
  go_enter Tryz.func238, Tryz.ntmps238
  cases b with
  | true =>
    go_wp2_with (at_builtin; refine append_text w rfl _ _ rfl base n v xs rfl hown ⟨#[116, 114, 117, 101]⟩ rfl (by decide) (by show n + 4 ≤ _; omega) hB ?_; intro v' w' g1)
    have HT : Hid (Told base n xs v w (boolBytes true) v' w') := g1
    go_ret
    exact ⟨_, rfl, HT.out⟩
  | false =>
    go_wp2_with (at_builtin; refine append_text w rfl _ _ rfl base n v xs rfl hown ⟨#[102, 97, 108, 115, 101]⟩ rfl (by decide) (by show n + 5 ≤ _; omega) hB ?_; intro v' w' g1)
    have HT : Hid (Told base n xs v w (boolBytes false) v' w') := g1
    go_ret
    exact ⟨_, rfl, HT.out⟩
theorem appendBool_any (b : Bool) (base n : Nat) (v : Value) (xs : List Value) (w : World) (hown : w.ownsRow base 5 1 v n xs) (hB : base ≤ w.heap.size) (hn : n ≤ 1000000000000) :
    Calls Tryz.prog 201 #[v, .bool b] w fun e w' => ∃ v', e = .returned v' ∧ Told base n xs v w (boolBytes b) v' w' := by
  have HC := hidE (appendBool_in b base n v xs w hown hB hn)
  clear hown
  go_enter Tryz.func201, Tryz.ntmps201
  go_wp2_with fail
  refine HC.out.mono ?_
  rintro e w' ⟨v', rfl, ht⟩
  have HT := hidE ht
  clear ht HC
  go_wp2_with fail
  go_ret
  exact ⟨_, rfl, HT.out⟩
end Go.Proofs.YthfilnflgahcjaaGreatDoor

namespace Go.Proofs.YthfilnflgahcjaaGreatDoor
open Go.RowKit Go.Shelf Go.Lib
set_option linter.unusedVariables false
set_option linter.unusedSimpArgs false
/-- The tables stand below. -/
structure TB (base : Nat) (w : World) : Prop where
  utf : ∀ w', Below base w w' → Tabs w'
  pow : TabBelow Tryz.prog base w "internal/strconv.uint64pow10" .u64 pow10Tab
theorem TB.on {base : Nat} {w w' : World} (h : TB base w) (hb : Below base w w') : TB base w' := ⟨fun w2 h2 => h.utf w2 (hb.trans h2), h.pow.on hb⟩
theorem Told.box {base n : Nat} {xs : List Value} {w w1 : World} {bs : List UInt8} {v v1 : Value} (h : Told base n xs v w bs v1 w1) (hown : w.ownsRow base 5 1 v n xs) {q : Nat} {c : Array Value} {fz : Nat × Nat} (hq : w.heap[q]? = some (.cells c 88 fz)) : w1.heap[q]? = some (.cells c 88 fz) :=
  h.kept hown q _ hq (by simp) (fun c fz e => by cases e)
theorem box_cell {w : World} {q : Nat} {c : Array Value} {fz : Nat × Nat} (hq : w.heap[q]? = some (.cells c 88 fz)) {i : Nat} {u : Value} (hi : c[i]? = some u) : w.cell? ⟨q, i, none⟩ = some u := by
  unfold World.cell?; simp only [hq]; simpa using hi
theorem told_len {s : ByteArray} : s.data.toList.length = s.size := rfl
theorem boxes {base n : Nat} {xs : List Value} {w w1 : World} {bs : List UInt8} {v v1 : Value} (h : Told base n xs v w bs v1 w1) (hown : w.ownsRow base 5 1 v n xs) {q : Nat} {a0 a1 a2 a3 a4 a5 : Value} {fz : Nat × Nat} (hq : w.heap[q]? = some (.cells #[a0, a1, a2, a3, a4, a5] 88 fz)) :
    w1.cell? ⟨q, 0, none⟩ = some a0 ∧ w1.cell? ⟨q, 1, none⟩ = some a1 ∧ w1.cell? ⟨q, 2, none⟩ = some a2 ∧ w1.cell? ⟨q, 3, none⟩ = some a3 ∧ w1.cell? ⟨q, 4, none⟩ = some a4 ∧ w1.cell? ⟨q, 5, none⟩ = some a5 :=
  have h := h.box hown hq
  ⟨box_cell h rfl, box_cell h rfl, box_cell h rfl, box_cell h rfl, box_cell h rfl, box_cell h rfl⟩
end Go.Proofs.YthfilnflgahcjaaGreatDoor

